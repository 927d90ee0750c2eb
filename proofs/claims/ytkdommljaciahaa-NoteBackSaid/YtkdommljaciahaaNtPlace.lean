/- Contract of note.PutPlace. No condition but that what is written is not too long. -/
import Derived.WalkSpells
import Derived.Test.YtkdommljaciahaaWrNew
import Derived.Test.YtkdommljaciahaaNtMark
namespace Go.Proofs.Ytkdommljaciahaa
open Go.RowKit
set_option linter.unusedVariables false
/-- a place in memory -/
structure QB (w : World) (H : Nat) (h i : Int) : Prop where
  blk : w.heap[H]? = some (.cells #[.int .u64 h, .int .i64 i] 26 (0, 0))
theorem QB.c0 {w : World} {H : Nat} {h i : Int} (q : QB w H h i) : w.cell? ⟨H, 0, none⟩ = some (.int .u64 h) := Kq.blk_cell q.blk 0
theorem QB.c1 {w : World} {H : Nat} {h i : Int} (q : QB w H h i) : w.cell? ⟨H, 1, none⟩ = some (.int .i64 i) := Kq.blk_cell q.blk 1
theorem QB.later {S : Nat → Prop} {w w' : World} {H : Nat} {h i : Int} (q : QB w H h i) (hk : Kq.Keeps S w w') (hS : ¬ S H) : QB w' H h i := ⟨hk.blk q.blk hS⟩
theorem WrMid.qb {w0 wr : World} {base B H : Nat} {v0 v : Value} {e : Int} {l : List Nat} {a i : Int} (h : WrMid w0 base B v0 e v l wr) (hp : QB w0 H a i) (h1 : H ≠ B) (h2 : ∀ k, v0.ownBlock = some k → k ≠ H) : QB wr H a i :=
  hp.later h.keeps (fun hh => by
    rcases hh with hh | hh
    · exact h1 hh
    · exact h2 H hh.symm rfl)
set_option maxRecDepth 100000 in
set_option maxHeartbeats 2000000 in
theorem nt_place_bad (base B : Nat) (e : Int) (v : Value) (l : List Nat) (a i : Int) (w : World) (h : Wr w base B e v l) (hi : i < 0 ∨ 65535 < i) :
    Calls Try.prog 16 #[.pointer (some ⟨B, 0, none⟩), .agg #[.int .u64 a, .int .i64 i]] w (WrAny w base B v (keepE e 1) l) := by
  have H1 := Lib.hid (h.belowW (Kq.below_alloc w (Obj.cells #[Value.int IntKind.u64 a, Value.int IntKind.i64 i] 26)))
  have HB := Lib.hid (Kq.below_alloc w (Obj.cells #[Value.int IntKind.u64 a, Value.int IntKind.i64 i] 26))
  clear h
  by_cases h0 : i < 0
  · go_enter Try.func16, Try.ntmps16
    go_wp2_with fail
    refine (nt_refuse base B e v l _ H1.out).mono ?_
    intro x w3 hp
    have HP := Lib.hid (hp.from HB.out)
    obtain ⟨rfl, -⟩ := hp
    clear H1 HB
    go_wp2
    first | go_end0 | refine bodyPost_ret (results_none rfl _ _ _) rfl ?_
    exact HP.out
  · have h1 : 65535 < i := hi.resolve_left h0
    go_enter Try.func16, Try.ntmps16
    go_wp2_with fail
    refine (nt_refuse base B e v l _ H1.out).mono ?_
    intro x w3 hp
    have HP := Lib.hid (hp.from HB.out)
    obtain ⟨rfl, -⟩ := hp
    clear H1 HB
    go_wp2
    first | go_end0 | refine bodyPost_ret (results_none rfl _ _ _) rfl ?_
    exact HP.out
set_option maxRecDepth 100000 in
set_option maxHeartbeats 2000000 in
theorem nt_place_ok (base B : Nat) (e : Int) (v : Value) (l : List Nat) (an i : Nat) (w : World) (h : Wr w base B e v l) (hi : i ≤ 65535) (ha : an < 18446744073709551616) (hl : l.length ≤ 1000000) :
    Calls Try.prog 16 #[.pointer (some ⟨B, 0, none⟩), .agg #[.int .u64 (an : Int), .int .i64 (i : Int)]] w (WrAny w base B v e (l ++ (num8 an ++ num8 i))) := by
  have hB : w.heap.size ≠ B := Ne.symm (Nat.ne_of_lt (Kq.blk_lt h.blk))
  have hown : ∀ k, v.ownBlock = some k → k ≠ w.heap.size := fun k hk => Nat.ne_of_lt (h.own.lt k hk).2
  have H1 := Lib.hid (h.belowW (Kq.below_alloc w (Obj.cells #[Value.int IntKind.u64 (an : Int), Value.int IntKind.i64 (i : Int)] 26)))
  have HB := Lib.hid (Kq.below_alloc w (Obj.cells #[Value.int IntKind.u64 (an : Int), Value.int IntKind.i64 (i : Int)] 26))
  have P1 : Hid (QB (w.alloc (Obj.cells #[Value.int IntKind.u64 (an : Int), Value.int IntKind.i64 (i : Int)] 26)) w.heap.size an i) := Lib.hid ⟨Kq.blk_new _ _ _ _⟩
  have HN := Lib.hid (And.intro hB hown)
  have HR := Lib.hid (And.intro ha hl)
  clear h hB hown ha hl
  have h0 : ¬ ((i : Int) < 0) := by omega
  have h1 : ¬ ((65535 : Int) < (i : Int)) := by omega
  have c0 := P1.out.c0
  go_enter Try.func16, Try.ntmps16
  go_wp2_with fail
  refine (wr_number base B e v _ an _ H1.out (by have := HR.out.1; unfold M64; omega) (by have := HR.out.2; omega)).mono ?_
  rintro x w4 hp
  obtain ⟨v4, M4⟩ := (WrMid.start H1.out).step hp
  obtain ⟨rfl, -⟩ := hp
  have H4 := Lib.hid M4
  have P4 := Lib.hid (M4.qb P1.out HN.out.1 HN.out.2)
  clear M4 c0
  have c1 := P4.out.c1
  go_wp2_with fail
  refine (wr_number base B e v4 _ i _ H4.out.it (by unfold M64; omega) (by have := HR.out.2; simp [num8]; omega)).mono ?_
  rintro x w5 hp
  obtain ⟨v5, M5⟩ := H4.out.step hp
  obtain ⟨rfl, -⟩ := hp
  have H6 := Lib.hid (M5.post.from HB.out)
  clear M5 c1 H4 P4 H1 P1
  go_wp2
  first | go_end0 | refine bodyPost_ret (results_none rfl _ _ _) rfl ?_
  have := H6.out
  simp only [List.append_assoc] at this
  exact this
end Go.Proofs.Ytkdommljaciahaa
