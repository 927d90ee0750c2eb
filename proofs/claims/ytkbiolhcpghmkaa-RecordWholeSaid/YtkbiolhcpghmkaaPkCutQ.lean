/- Merged: PkPut, PkM, PkCut. Contracts of packet.Put, packet.Bytes. Condition: a packet's data is not too long. Plain mathematics: a packet got of a text, place by place. No condition. Plain mathematics: a packet's bytes are told by themselves. No condition. -/
import Derived.WalkSpells
import Derived.Test.YtkbiolhcpghmkaaPkGetQ
import Derived.Test.YtkbiolhcpghmkaaBetwQ
namespace Go.Proofs.Ytkbiolhcpghmkaa
open Go.RowKit
set_option linter.unusedVariables false
/-- a packet's bytes -/
def encP (p : PkV) : List Nat := [p.f.toNat] ++ num8 p.q.toNat ++ num8 p.t.toNat ++ (hi2 p.d.size ++ nl p.d)
theorem WrMid.pb {w0 wr : World} {base B H : Nat} {v0 v : Value} {e : Int} {l : List Nat} {f q t : Int} {d : ByteArray} (h : WrMid w0 base B v0 e v l wr) (hp : PB w0 H f q t d) (h1 : H ≠ B) (h2 : ∀ k, v0.ownBlock = some k → k ≠ H) : PB wr H f q t d :=
  hp.later h.keeps (fun hh => by
    rcases hh with hh | hh
    · exact h1 hh
    · exact h2 H hh.symm rfl)
set_option maxRecDepth 100000 in
set_option maxHeartbeats 2000000 in
theorem pk_put_bad_e (base B : Nat) (e : Int) (v : Value) (l : List Nat) (f q t : Int) (d : ByteArray) (w : World) (h : Wr w base B e v l) (hok : ¬ PkOk ⟨f, q, t, d⟩) :
    Calls Try.prog 60 #[.pointer (some ⟨B, 0, none⟩), .agg #[.int .i64 f, .int .u64 q, .int .u64 t, .string d]] w (WrAny w base B v (keepE e 1) l) := by
  have H1 := Lib.hid (h.belowW (Kq.below_alloc w (Obj.cells #[Value.int IntKind.i64 f, Value.int IntKind.u64 q, Value.int IntKind.u64 t, Value.string d] 51)))
  clear h
  have HOK := Lib.hid hok
  clear hok
  go_enter Try.func60, Try.ntmps60
  go_wp2_with fail
  refine (pk_check_bad f q t d _ HOK.out).mono ?_
  rintro x w2 ⟨rfl, b2⟩
  have H2 := Lib.hid (H1.out.belowW b2)
  have HB := Lib.hid ((Kq.below_alloc w _).trans (b2.mono (Kq.below_alloc w _).size))
  clear b2 H1
  go_wp2_with fail
  refine (wr_byte_bad base B e v l (-1) _ H2.out (Or.inl (by decide))).mono ?_
  intro x w3 hp
  have HP := Lib.hid (hp.from HB.out)
  obtain ⟨rfl, -⟩ := hp
  clear H2 HB
  go_wp2
  first | go_end0 | refine bodyPost_ret (results_none rfl _ _ _) rfl ?_
  exact HP.out
theorem pk_put_bad (base B : Nat) (v : Value) (l : List Nat) (f q t : Int) (d : ByteArray) (w : World) (h : Wr w base B 0 v l) (hok : ¬ PkOk ⟨f, q, t, d⟩) :
    Calls Try.prog 60 #[.pointer (some ⟨B, 0, none⟩), .agg #[.int .i64 f, .int .u64 q, .int .u64 t, .string d]] w (WrAny w base B v 1 l) := pk_put_bad_e base B 0 v l f q t d w h hok
set_option maxRecDepth 100000 in
set_option maxHeartbeats 4000000 in
theorem pk_put_ok_e (base B : Nat) (e : Int) (v : Value) (l : List Nat) (f q t : Int) (d : ByteArray) (w : World) (h : Wr w base B e v l) (hok : PkOk ⟨f, q, t, d⟩) (hq : 0 ≤ q ∧ q < 18446744073709551616) (ht : 0 ≤ t ∧ t < 18446744073709551616) (hl : l.length ≤ 1000000) :
    Calls Try.prog 60 #[.pointer (some ⟨B, 0, none⟩), .agg #[.int .i64 f, .int .u64 q, .int .u64 t, .string d]] w (WrAny w base B v e (l ++ encP ⟨f, q, t, d⟩)) := by
  have hB : w.heap.size ≠ B := Ne.symm (Nat.ne_of_lt (Kq.blk_lt h.blk))
  have hown : ∀ k, v.ownBlock = some k → k ≠ w.heap.size := fun k hk => Nat.ne_of_lt (h.own.lt k hk).2
  have H1 := Lib.hid (h.belowW (Kq.below_alloc w (Obj.cells #[Value.int IntKind.i64 f, Value.int IntKind.u64 q, Value.int IntKind.u64 t, Value.string d] 51)))
  have P1 : Hid (PB (w.alloc (Obj.cells #[Value.int IntKind.i64 f, Value.int IntKind.u64 q, Value.int IntKind.u64 t, Value.string d] 51)) w.heap.size f q t d) := Lib.hid ⟨Kq.blk_new _ _ _ _⟩
  clear h
  have HOK := Lib.hid hok
  have HN := Lib.hid (And.intro hB hown)
  have HR := Lib.hid (And.intro hq (And.intro ht hl))
  obtain ⟨fn, rfl⟩ := Int.eq_ofNat_of_zero_le (show 0 ≤ f from hok.1)
  obtain ⟨qn, rfl⟩ := Int.eq_ofNat_of_zero_le hq.1
  obtain ⟨tn, rfl⟩ := Int.eq_ofNat_of_zero_le ht.1
  clear hok hB hown hq ht hl
  have hf : fn ≤ 255 := by have := HOK.out.2.1; simp only at this; omega
  have hd : d.size ≤ 64 := HOK.out.2.2.2.2
  go_enter Try.func60, Try.ntmps60
  go_wp2_with fail
  refine (pk_check_ok _ _ _ d _ HOK.out).mono ?_
  rintro x w2 ⟨rfl, b2⟩
  have H2 := Lib.hid (H1.out.belowW b2)
  have P2 := Lib.hid (PB.mk (Kq.below_blk b2 P1.out.blk (Kq.blk_lt P1.out.blk)))
  have HB := Lib.hid ((Kq.below_alloc w _).trans (b2.mono (Kq.below_alloc w _).size))
  clear b2 H1 P1
  have c0 := P2.out.c0
  go_wp2_with fail
  refine (wr_byte_ok base B e v l fn _ H2.out hf (by have := HR.out.2.2; omega)).mono ?_
  rintro x w3 hp
  obtain ⟨v3, M3⟩ := (WrMid.start H2.out).step hp.any
  obtain ⟨rfl, -⟩ := hp
  have H3 := Lib.hid M3
  have P3 := Lib.hid (M3.pb P2.out HN.out.1 HN.out.2)
  clear M3 c0 H2
  have c1 := P3.out.c1
  go_wp2_with fail
  refine (wr_number base B e v3 _ qn _ H3.out.it (by have := HR.out.1.2; unfold M64; omega) (by have := HR.out.2.2; simp; omega)).mono ?_
  rintro x w4 hp
  obtain ⟨v4, M4⟩ := H3.out.step hp
  obtain ⟨rfl, -⟩ := hp
  have H4 := Lib.hid M4
  have P4 := Lib.hid (M4.pb P2.out HN.out.1 HN.out.2)
  clear M4 c1 H3 P3
  have c2 := P4.out.c2
  go_wp2_with fail
  refine (wr_number base B e v4 _ tn _ H4.out.it (by have := HR.out.2.1.2; unfold M64; omega) (by have := HR.out.2.2; simp [num8]; omega)).mono ?_
  rintro x w5 hp
  obtain ⟨v5, M5⟩ := H4.out.step hp
  obtain ⟨rfl, -⟩ := hp
  have H5 := Lib.hid M5
  have P5 := Lib.hid (M5.pb P2.out HN.out.1 HN.out.2)
  clear M5 c2 H4 P4
  have c3 := P5.out.c3
  go_wp2_with fail
  refine (wr_text_ok base B e v5 _ d _ H5.out.it (by omega) (by have := HR.out.2.2; simp [num8]; omega)).mono ?_
  rintro x w6 hp
  obtain ⟨v6, M6⟩ := H5.out.step hp
  obtain ⟨rfl, -⟩ := hp
  have H6 := Lib.hid (M6.post.from HB.out)
  clear M6 c3 H5 P5
  go_wp2
  first | go_end0 | refine bodyPost_ret (results_none rfl _ _ _) rfl ?_
  have := H6.out
  simp only [List.append_assoc] at this
  simp only [encP, Int.toNat_natCast, List.append_assoc]
  exact this
theorem pk_put_ok (base B : Nat) (v : Value) (l : List Nat) (f q t : Int) (d : ByteArray) (w : World) (h : Wr w base B 0 v l) (hok : PkOk ⟨f, q, t, d⟩) (hq : 0 ≤ q ∧ q < 18446744073709551616) (ht : 0 ≤ t ∧ t < 18446744073709551616) (hl : l.length ≤ 1000000) :
    Calls Try.prog 60 #[.pointer (some ⟨B, 0, none⟩), .agg #[.int .i64 f, .int .u64 q, .int .u64 t, .string d]] w (WrAny w base B v 0 (l ++ encP ⟨f, q, t, d⟩)) := pk_put_ok_e base B 0 v l f q t d w h hok hq ht hl
end Go.Proofs.Ytkbiolhcpghmkaa
namespace Go.Proofs.Ytkbiolhcpghmkaa
open Go.RowKit
set_option linter.unusedVariables false
theorem raw_step {L : List Nat} {p n : Nat} {r : ByteArray} (h : Between L L.length p r) (hn : p + n ≤ L.length) :
    ∃ t r', WireM.raw 0 r (n : Nat) = (t, 0, r') ∧ nl t = (L.drop p).take n ∧ Between L L.length (p + n) r' := by
  have hl : ((L.drop p).take n).length = n := by rw [List.length_take, List.length_drop]; omega
  have := read_ok h (Nat.le_refl _) ((L.drop p).take n) (List.take_prefix _ _) (by rw [hl]; exact hn)
  rw [hl] at this
  obtain ⟨h1, h2, h3⟩ := this
  exact ⟨_, _, Prod.ext rfl (Prod.ext h2 rfl), h1, h3⟩
theorem raw_fall {L : List Nat} {p n : Nat} {r : ByteArray} (h : Between L L.length p r) (hn : L.length < p + n) (hp : p ≤ L.length) : WireM.raw 0 r (n : Nat) = (⟨#[]⟩, 6, r) :=
  read_no h (Nat.le_refl _) n hn hp
theorem raw_six (r : ByteArray) (n : Int) : WireM.raw 6 r n = (⟨#[]⟩, 6, r) := WireM.raw_stuck 6 r n (by decide)
theorem between_self (s : ByteArray) : Between (nl s) (nl s).length 0 s := by
  unfold Between
  rw [List.take_length, List.drop_zero]
/-- how far a text goes -/
theorem get_six (s : ByteArray) (h : (nl s).length < 19 ∨ (nl s).length < 19 + WireM.val (((nl s).drop 17).take 2)) : (gX 0 s).2.1 = 6 := by
  have h0 := between_self s
  generalize nl s = L at *
  by_cases k1 : L.length < 1
  · have e1 := raw_fall (n := 1) h0 (by omega) (by omega)
    unfold gX gD gC gB gA
    simp only [e1, raw_six]
  obtain ⟨t1, r1, e1, _, h1⟩ := raw_step (n := 1) h0 (by omega)
  rw [Nat.zero_add] at h1
  by_cases k2 : L.length < 9
  · have e2 := raw_fall (n := 8) h1 (by omega) (by omega)
    unfold gX gD gC gB gA
    simp only [e1, e2, raw_six]
  obtain ⟨t2, r2, e2, _, h2⟩ := raw_step (n := 8) h1 (by omega)
  by_cases k3 : L.length < 17
  · have e3 := raw_fall (n := 8) h2 (by omega) (by omega)
    unfold gX gD gC gB gA
    simp only [e1, e2, e3, raw_six]
  obtain ⟨t3, r3, e3, _, h3⟩ := raw_step (n := 8) h2 (by omega)
  by_cases k4 : L.length < 19
  · have e4 := raw_fall (n := 2) h3 (by omega) (by omega)
    unfold gX gD gC gB gA
    simp only [e1, e2, e3, e4, raw_six]
  obtain ⟨t4, r4, e4, v4, h4⟩ := raw_step (n := 2) h3 (by omega)
  have h5 : L.length < 19 + WireM.val (nl t4) := by rw [v4]; exact h.resolve_left k4
  have e5 := raw_fall (n := WireM.val (nl t4)) h4 (by omega) (by omega)
  unfold gX gD gC gB gA
  simp only [e1, e2, e3, e4, e5]
theorem get_all (s : ByteArray) (h : 19 + WireM.val (((nl s).drop 17).take 2) ≤ (nl s).length) :
    (gX 0 s).2.1 = 0 ∧ gP 0 s = ⟨(WireM.val ((nl s).take 1) : Nat), (WireM.val (((nl s).drop 1).take 8) : Nat), (WireM.val (((nl s).drop 9).take 8) : Nat), (gX 0 s).1⟩ ∧
      nl (gX 0 s).1 = ((nl s).drop 19).take (WireM.val (((nl s).drop 17).take 2)) ∧ Between (nl s) (nl s).length (19 + WireM.val (((nl s).drop 17).take 2)) (gX 0 s).2.2 := by
  have h0 := between_self s
  generalize nl s = L at *
  obtain ⟨t1, r1, e1, v1, h1⟩ := raw_step (n := 1) h0 (by omega)
  rw [Nat.zero_add] at h1
  rw [List.drop_zero] at v1
  obtain ⟨t2, r2, e2, v2, h2⟩ := raw_step (n := 8) h1 (by omega)
  obtain ⟨t3, r3, e3, v3, h3⟩ := raw_step (n := 8) h2 (by omega)
  obtain ⟨t4, r4, e4, v4, h4⟩ := raw_step (n := 2) h3 (by omega)
  have v4' : nl t4 = (L.drop 17).take 2 := v4
  obtain ⟨t5, r5, e5, v5, h5⟩ := raw_step (n := WireM.val (nl t4)) h4 (by rw [v4']; omega)
  have hA : gA 0 s = (t1, 0, r1) := e1
  have hB : gB 0 s = (t2, 0, r2) := by unfold gB; rw [hA]; exact e2
  have hC : gC 0 s = (t3, 0, r3) := by unfold gC; rw [hB]; exact e3
  have hD : gD 0 s = (t4, 0, r4) := by unfold gD; rw [hC]; exact e4
  have hX : gX 0 s = (t5, 0, r5) := by unfold gX; rw [hD]; exact e5
  unfold gP
  rw [hX, hA, hB, hC]
  refine ⟨rfl, ?_, ?_, ?_⟩
  · show PkV.mk (WireM.val (nl t1) : Nat) (WireM.val (nl t2) : Nat) (WireM.val (nl t3) : Nat) t5 = _
    rw [v1, v2, v3]
  · show nl t5 = _
    rw [v5, v4']
  · show Between L L.length _ r5
    rw [v4'] at h5
    exact h5
theorem nl_head (s : ByteArray) (h : 0 < s.size) : WireM.val ((nl s).take 1) = s[0].toNat := by
  have := take_succ_nl s 0 h
  rw [List.take_zero] at this
  rw [this]
  simp [WireM.val]
end Go.Proofs.Ytkbiolhcpghmkaa
namespace Go.Proofs.Ytkbiolhcpghmkaa
open Go.RowKit
set_option linter.unusedVariables false
theorem encP_len (p : PkV) : (encP p).length = 19 + p.d.size := by
  simp [encP, num8, hi2, nl_length]; omega
theorem encP_take (p : PkV) (m : List Nat) : (encP p ++ m).take 1 = [p.f.toNat] ∧ ((encP p ++ m).drop 1).take 8 = num8 p.q.toNat ∧ ((encP p ++ m).drop 9).take 8 = num8 p.t.toNat ∧ ((encP p ++ m).drop 17).take 2 = hi2 p.d.size ∧ (encP p ++ m).drop 19 = nl p.d ++ m := by
  simp [encP, num8, hi2]
theorem get_cut (p : PkV) (s : ByteArray) (n : Nat) (hn : n < (encP p).length) (hs : nl s = (encP p).take n) : getOf 0 s = (PkV.zero, 6, (gX 0 s).2.2) := by
  have hl : (nl s).length = n := by rw [hs, List.length_take]; omega
  have h6 : (gX 0 s).2.1 = 6 := by
    refine get_six s ?_
    by_cases h : n < 19
    · exact Or.inl (by omega)
    · refine Or.inr ?_
      have h17 := (encP_take p []).2.2.2.1
      rw [List.append_nil] at h17
      have : ((nl s).drop 17).take 2 = hi2 p.d.size := by
        rw [hs, List.drop_take, List.take_take, Nat.min_eq_left (by omega), h17]
      rw [this, val_hi2]
      rw [encP_len] at hn
      omega
  unfold getOf
  rw [h6, if_neg (by decide)]
theorem get_whole (p : PkV) (hok : PkOk p) (hq : 0 ≤ p.q ∧ p.q < 18446744073709551616) (ht : 0 ≤ p.t ∧ p.t < 18446744073709551616) (s more : ByteArray) (hs : nl s = encP p ++ nl more) :
    getOf 0 s = (p, 0, (gX 0 s).2.2) ∧ (gX 0 s).2.2.size = more.size := by
  obtain ⟨h1, h2, h3, h4, h5⟩ := encP_take p (nl more)
  rw [← hs] at h1 h2 h3 h4 h5
  have hl : (nl s).length = 19 + p.d.size + more.size := by rw [hs, List.length_append, encP_len, nl_length]
  have hv : WireM.val (((nl s).drop 17).take 2) = p.d.size := by rw [h4, val_hi2]
  obtain ⟨g1, g2, g3, g4⟩ := get_all s (by rw [hv]; omega)
  rw [hv] at g3 g4
  rw [h5] at g3
  have hd : (gX 0 s).1 = p.d := by
    apply nl_inj
    rw [g3, ← nl_length p.d, List.take_left]
  have hf0 := hok.1
  have hP : gP 0 s = p := by
    rw [g2, h1, h2, h3, hd, val_one, val_num8 _ (by unfold M64; omega), val_num8 _ (by unfold M64; omega)]
    obtain ⟨f, q, t, d⟩ := p
    simp only at hf0 hq ht ⊢
    rw [Int.toNat_of_nonneg hf0, Int.toNat_of_nonneg hq.1, Int.toNat_of_nonneg ht.1]
  refine ⟨?_, ?_⟩
  · unfold getOf
    rw [g1, if_pos rfl, hP, if_pos hok]
  · have := between_size g4 (Nat.le_refl _)
    rw [this, hl]; omega
end Go.Proofs.Ytkbiolhcpghmkaa
