/- Contracts of packet.Put, packet.Bytes. Condition: a packet's data is not too long. -/
import Derived.WalkSpells
import Derived.Test.YtkdommljaciahaaPkGet
namespace Go.Proofs.Ytkdommljaciahaa
open Go.RowKit
set_option linter.unusedVariables false
/-- a packet's bytes -/
def encP (p : PkV) : List Nat := [p.f.toNat] ++ num8 p.q.toNat ++ num8 p.t.toNat ++ (hi2 p.d.size ++ nl p.d)
theorem WrMid.pb {w0 wr : World} {base B H : Nat} {v0 v : Value} {e : Int} {l : List Nat} {f q t : Int} {d : ByteArray} (h : WrMid w0 base B v0 e v l wr) (hp : PB w0 H f q t d) (h1 : H ≠ B) (h2 : ∀ k, v0.ownBlock = some k → k ≠ H) : PB wr H f q t d :=
  hp.later h.keeps (fun hh => by
    rcases hh with hh | hh
    · exact h1 hh
    · exact h2 H hh.symm rfl)
set_option maxRecDepth 100000 in
set_option maxHeartbeats 2000000 in
theorem pk_put_bad_e (base B : Nat) (e : Int) (v : Value) (l : List Nat) (f q t : Int) (d : ByteArray) (w : World) (h : Wr w base B e v l) (hok : ¬ PkOk ⟨f, q, t, d⟩) :
    Calls Try.prog 52 #[.pointer (some ⟨B, 0, none⟩), .agg #[.int .i64 f, .int .u64 q, .int .u64 t, .string d]] w (WrAny w base B v (keepE e 1) l) := by
  have H1 := Lib.hid (h.belowW (Kq.below_alloc w (Obj.cells #[Value.int IntKind.i64 f, Value.int IntKind.u64 q, Value.int IntKind.u64 t, Value.string d] 28)))
  clear h
  have HOK := Lib.hid hok
  clear hok
  go_enter Try.func52, Try.ntmps52
  go_wp2_with fail
  refine (pk_check_bad f q t d _ HOK.out).mono ?_
  rintro x w2 ⟨rfl, b2⟩
  have H2 := Lib.hid (H1.out.belowW b2)
  have HB := Lib.hid ((Kq.below_alloc w _).trans (b2.mono (Kq.below_alloc w _).size))
  clear b2 H1
  go_wp2_with fail
  refine (wr_byte_bad base B e v l (-1) _ H2.out (Or.inl (by decide))).mono ?_
  intro x w3 hp
  have HP := Lib.hid (hp.from HB.out)
  obtain ⟨rfl, -⟩ := hp
  clear H2 HB
  go_wp2
  first | go_end0 | refine bodyPost_ret (results_none rfl _ _ _) rfl ?_
  exact HP.out
theorem pk_put_bad (base B : Nat) (v : Value) (l : List Nat) (f q t : Int) (d : ByteArray) (w : World) (h : Wr w base B 0 v l) (hok : ¬ PkOk ⟨f, q, t, d⟩) :
    Calls Try.prog 52 #[.pointer (some ⟨B, 0, none⟩), .agg #[.int .i64 f, .int .u64 q, .int .u64 t, .string d]] w (WrAny w base B v 1 l) := pk_put_bad_e base B 0 v l f q t d w h hok
set_option maxRecDepth 100000 in
set_option maxHeartbeats 4000000 in
theorem pk_put_ok_e (base B : Nat) (e : Int) (v : Value) (l : List Nat) (f q t : Int) (d : ByteArray) (w : World) (h : Wr w base B e v l) (hok : PkOk ⟨f, q, t, d⟩) (hq : 0 ≤ q ∧ q < 18446744073709551616) (ht : 0 ≤ t ∧ t < 18446744073709551616) (hl : l.length ≤ 1000000) :
    Calls Try.prog 52 #[.pointer (some ⟨B, 0, none⟩), .agg #[.int .i64 f, .int .u64 q, .int .u64 t, .string d]] w (WrAny w base B v e (l ++ encP ⟨f, q, t, d⟩)) := by
  have hB : w.heap.size ≠ B := Ne.symm (Nat.ne_of_lt (Kq.blk_lt h.blk))
  have hown : ∀ k, v.ownBlock = some k → k ≠ w.heap.size := fun k hk => Nat.ne_of_lt (h.own.lt k hk).2
  have H1 := Lib.hid (h.belowW (Kq.below_alloc w (Obj.cells #[Value.int IntKind.i64 f, Value.int IntKind.u64 q, Value.int IntKind.u64 t, Value.string d] 28)))
  have P1 : Hid (PB (w.alloc (Obj.cells #[Value.int IntKind.i64 f, Value.int IntKind.u64 q, Value.int IntKind.u64 t, Value.string d] 28)) w.heap.size f q t d) := Lib.hid ⟨Kq.blk_new _ _ _ _⟩
  clear h
  have HOK := Lib.hid hok
  have HN := Lib.hid (And.intro hB hown)
  have HR := Lib.hid (And.intro hq (And.intro ht hl))
  obtain ⟨fn, rfl⟩ := Int.eq_ofNat_of_zero_le (show 0 ≤ f from hok.1)
  obtain ⟨qn, rfl⟩ := Int.eq_ofNat_of_zero_le hq.1
  obtain ⟨tn, rfl⟩ := Int.eq_ofNat_of_zero_le ht.1
  clear hok hB hown hq ht hl
  have hf : fn ≤ 255 := by have := HOK.out.2.1; simp only at this; omega
  have hd : d.size ≤ 64 := HOK.out.2.2.2.2
  go_enter Try.func52, Try.ntmps52
  go_wp2_with fail
  refine (pk_check_ok _ _ _ d _ HOK.out).mono ?_
  rintro x w2 ⟨rfl, b2⟩
  have H2 := Lib.hid (H1.out.belowW b2)
  have P2 := Lib.hid (PB.mk (Kq.below_blk b2 P1.out.blk (Kq.blk_lt P1.out.blk)))
  have HB := Lib.hid ((Kq.below_alloc w _).trans (b2.mono (Kq.below_alloc w _).size))
  clear b2 H1 P1
  have c0 := P2.out.c0
  go_wp2_with fail
  refine (wr_byte_ok base B e v l fn _ H2.out hf (by have := HR.out.2.2; omega)).mono ?_
  rintro x w3 hp
  obtain ⟨v3, M3⟩ := (WrMid.start H2.out).step hp.any
  obtain ⟨rfl, -⟩ := hp
  have H3 := Lib.hid M3
  have P3 := Lib.hid (M3.pb P2.out HN.out.1 HN.out.2)
  clear M3 c0 H2
  have c1 := P3.out.c1
  go_wp2_with fail
  refine (wr_number base B e v3 _ qn _ H3.out.it (by have := HR.out.1.2; unfold M64; omega) (by have := HR.out.2.2; simp; omega)).mono ?_
  rintro x w4 hp
  obtain ⟨v4, M4⟩ := H3.out.step hp
  obtain ⟨rfl, -⟩ := hp
  have H4 := Lib.hid M4
  have P4 := Lib.hid (M4.pb P2.out HN.out.1 HN.out.2)
  clear M4 c1 H3 P3
  have c2 := P4.out.c2
  go_wp2_with fail
  refine (wr_number base B e v4 _ tn _ H4.out.it (by have := HR.out.2.1.2; unfold M64; omega) (by have := HR.out.2.2; simp [num8]; omega)).mono ?_
  rintro x w5 hp
  obtain ⟨v5, M5⟩ := H4.out.step hp
  obtain ⟨rfl, -⟩ := hp
  have H5 := Lib.hid M5
  have P5 := Lib.hid (M5.pb P2.out HN.out.1 HN.out.2)
  clear M5 c2 H4 P4
  have c3 := P5.out.c3
  go_wp2_with fail
  refine (wr_text_ok base B e v5 _ d _ H5.out.it (by omega) (by have := HR.out.2.2; simp [num8]; omega)).mono ?_
  rintro x w6 hp
  obtain ⟨v6, M6⟩ := H5.out.step hp
  obtain ⟨rfl, -⟩ := hp
  have H6 := Lib.hid (M6.post.from HB.out)
  clear M6 c3 H5 P5
  go_wp2
  first | go_end0 | refine bodyPost_ret (results_none rfl _ _ _) rfl ?_
  have := H6.out
  simp only [List.append_assoc] at this
  simp only [encP, Int.toNat_natCast, List.append_assoc]
  exact this
theorem pk_put_ok (base B : Nat) (v : Value) (l : List Nat) (f q t : Int) (d : ByteArray) (w : World) (h : Wr w base B 0 v l) (hok : PkOk ⟨f, q, t, d⟩) (hq : 0 ≤ q ∧ q < 18446744073709551616) (ht : 0 ≤ t ∧ t < 18446744073709551616) (hl : l.length ≤ 1000000) :
    Calls Try.prog 52 #[.pointer (some ⟨B, 0, none⟩), .agg #[.int .i64 f, .int .u64 q, .int .u64 t, .string d]] w (WrAny w base B v 0 (l ++ encP ⟨f, q, t, d⟩)) := pk_put_ok_e base B 0 v l f q t d w h hok hq ht hl
end Go.Proofs.Ytkdommljaciahaa
