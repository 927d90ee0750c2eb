/- A table in memory; contracts of New, Len, Room, Get, nameOf, mayBe. Condition: names that may be. -/
import Derived.WalkSpells
import Derived.Outline
import Derived.Deep.QuietTactic
import Derived.BigQuiet
import Derived.Test.YtkbiolhcpghmkaaGreatTbMap2Q
import Derived.Test.YtkbiolhcpghmkaaGreatTwoFQ
namespace Go.Proofs.YtkbiolhcpghmkaaGreat
open Go.RowKit Go.Maps Go.Kq
set_option linter.unusedVariables false
structure TP (w : World) (O : Nat → Prop) (B : Nat) (s : TbV) (M : Nat) : Prop where
  blk : w.heap[B]? = some (.cells #[.int .i64 (s.room : Int), .map (some M)] 90 (0, 0))
  map : MapT w M s.l
  oB : O B
  oM : O M
def TbP (w : World) (O : Nat → Prop) (B : Nat) (s : TbV) : Prop := ∃ M, TP w O B s M
section
variable {w w' : World} {O O' : Nat → Prop} {B : Nat} {s : TbV} {M : Nat}
theorem TP.c0 (h : TP w O B s M) : w.cell? ⟨B, 0, none⟩ = some (.int .i64 (s.room : Int)) := Kq.blk_cell h.blk 0
theorem TP.c1 (h : TP w O B s M) : w.cell? ⟨B, 1, none⟩ = some (.map (some M)) := Kq.blk_cell h.blk 1
theorem TP.lt (h : TP w O B s M) : B < w.heap.size := Kq.blk_lt h.blk
theorem TP.ne (h : TP w O B s M) : M ≠ B := fun e => by
  obtain ⟨es, cl, h1⟩ := h.map.obj
  rw [e, h.blk] at h1
  cases h1
theorem TP.mono (h : TP w O B s M) (hO : ∀ k, O k → O' k) : TP w O' B s M := ⟨h.blk, h.map, hO _ h.oB, hO _ h.oM⟩
theorem TP.keeps {S : Nat → Prop} (h : TP w O B s M) (hk : Kq.Keeps S w w') (hS : ∀ k, O k → ¬ S k) : TP w' O B s M := ⟨hk.blk h.blk (hS _ h.oB), h.map.keeps hk (hS _ h.oM), h.oB, h.oM⟩
theorem TP.below (h : TP w O B s M) (hb : Below w.heap.size w w') : TP w' O B s M := h.keeps (keepsF (O := O) hb) (fun _ _ h => h)
theorem TbP.mono (h : TbP w O B s) (hO : ∀ k, O k → O' k) : TbP w O' B s := by
  obtain ⟨M, h⟩ := h
  exact ⟨M, h.mono hO⟩
theorem TbP.keeps {S : Nat → Prop} (h : TbP w O B s) (hk : Kq.Keeps S w w') (hS : ∀ k, O k → ¬ S k) : TbP w' O B s := by
  obtain ⟨M, h⟩ := h
  exact ⟨M, h.keeps hk hS⟩
theorem TbP.below (h : TbP w O B s) (hb : Below w.heap.size w w') : TbP w' O B s := h.keeps (keepsF (O := O) hb) (fun _ _ h => h)
end
/-- what a call tells that may change the table -/
def StepT (w : World) (O : Nat → Prop) (B : Nat) (r : Value) (s' : TbV) (x : Ending) (w' : World) : Prop := x = .returned r ∧ TbP w' (Ext O w w') B s' ∧ Kq.Keeps O w w'
theorem StepT.same {w w' : World} {O : Nat → Prop} {B : Nat} {r : Value} {s : TbV} (h : TbP w O B s) (hb : Below w.heap.size w w') {x : Ending} (hx : x = .returned r) : StepT w O B r s x w' :=
  ⟨hx, (h.below hb).mono (fun k hk => Or.inl hk), Kq.Keeps.of_below hb (fun k h1 h2 => absurd h2 (Nat.not_lt.2 h1))⟩
/-- a step behind blocks made first -/
theorem StepT.from {w w1 w' : World} {O : Nat → Prop} {B : Nat} {r : Value} {s' : TbV} {x : Ending} (hb : Below w.heap.size w w1) (h : StepT w1 O B r s' x w') : StepT w O B r s' x w' := by
  obtain ⟨M, hp⟩ := h.2.1
  have h1 := hb.size
  have h2 := h.2.2.size
  refine ⟨h.1, ⟨M, hp.mono (fun k hk => ?_)⟩, (Kq.Keeps.of_below hb (fun k h1 h2 => absurd h2 (Nat.not_lt.2 h1))).trans h.2.2⟩
  rcases hk with hk | hk
  · exact Or.inl hk
  · exact Or.inr (by omega)
section
variable (w : World) (O : Nat → Prop) (B : Nat) (s : TbV)
set_option maxRecDepth 100000 in
theorem tb_len (h : TbP w O B s) : Calls Tryz.prog 35 #[.pointer (some ⟨B, 0, none⟩)] w fun x w' => x = .returned (.int .i64 (s.l.length : Int)) ∧ w' = w := by
  obtain ⟨M, h⟩ := h
  have c1 := h.c1
  have hl := h.map.len 3
  clear h
  go_enter Tryz.func35, Tryz.ntmps35
  go_wp2
  go_ret
  exact ⟨rfl, rfl⟩
set_option maxRecDepth 100000 in
set_option maxHeartbeats 1000000 in
theorem tb_name (f q t : Int) (d : ByteArray) (w : World) : Calls Tryz.prog 34 #[.agg #[.int .i64 f, .int .u64 q, .int .u64 t, .string d]] w fun x w' => x = .returned (.agg #[.int .i64 f, .int .u64 q]) ∧ Below w.heap.size w w' := by
  go_enter Tryz.func34, Tryz.ntmps34
  go_wp2
  refine bodyPost_ret (v := .agg #[.int .i64 f, .int .u64 q]) (by simp [results, Tryz.results34, go_sem]) rfl ?_
  exact ⟨rfl, (Kq.below_alloc _ _).trans ((Kq.below_alloc _ _).mono (Kq.below_alloc _ _).size)⟩
set_option maxRecDepth 100000 in
set_option maxHeartbeats 1000000 in
theorem tb_get (f q : Int) (hk : nmW (f, q)) (h : TbP w O B s) : Calls Tryz.prog 101 #[.pointer (some ⟨B, 0, none⟩), .int .i64 f, .int .u64 q] w fun x w' => x = .returned (.tuple #[itV ((tbR.look s.l (f, q)).getD itZ), .bool (tbR.look s.l (f, q)).isSome]) ∧ Below w.heap.size w w' := by
  obtain ⟨M, h⟩ := h
  have hb0 := (Kq.below_alloc w (.cells #[.int .i64 0, .int .u64 0, .int .u64 0, .string ⟨#[]⟩, .int .i64 0] 51))
  have c1 := (h.below hb0).c1
  have hl := (h.below hb0).map.look f q hk
  obtain ⟨n, hn⟩ : ∃ n, n = (tbR.look s.l (f, q)).getD itZ := ⟨_, rfl⟩
  obtain ⟨b, hb⟩ : ∃ b, b = (tbR.look s.l (f, q)).isSome := ⟨_, rfl⟩
  rw [← hn, ← hb] at hl ⊢
  obtain ⟨k, f', q', t, d⟩ := n
  unfold itV at hl ⊢
  simp only at hl ⊢
  clear h hn hb hk
  go_enter Tryz.func101, Tryz.ntmps101
  go_wp2
  refine bodyPost_ret (v := .tuple #[.agg #[.int .i64 f', .int .u64 q', .int .u64 t, .string d, .int .i64 k], .bool b]) (by simp [results, Tryz.results101, go_sem]) rfl ?_
  exact ⟨rfl, (Kq.below_alloc _ _).trans ((Kq.below_alloc _ _).mono (Kq.below_alloc _ _).size)⟩
end
theorem new_tb (r : Nat) (w : World) : TbP ((w.alloc (.map #[] 0)).alloc (.cells #[.int .i64 (r : Int), .map (some w.heap.size)] 90)) (fun k => w.heap.size ≤ k ∧ k < ((w.alloc (.map #[] 0)).alloc (.cells #[.int .i64 (r : Int), .map (some w.heap.size)] 90)).heap.size) (w.heap.size + 1) ⟨r, []⟩ ∧ Below w.heap.size w ((w.alloc (.map #[] 0)).alloc (.cells #[.int .i64 (r : Int), .map (some w.heap.size)] 90)) := by
  have b1 := Kq.below_alloc w (.map #[] 0)
  have b2 := Kq.below_alloc (w.alloc (.map #[] 0)) (.cells #[.int .i64 (r : Int), .map (some w.heap.size)] 90)
  have hn := Kq.blk_new (w.alloc (.map #[] 0)) #[.int .i64 (r : Int), .map (some w.heap.size)] 90 (0, 0)
  have z1 : (w.alloc (.map #[] 0)).heap.size = w.heap.size + 1 := by simp
  have z2 : ((w.alloc (.map #[] 0)).alloc (.cells #[.int .i64 (r : Int), .map (some w.heap.size)] 90)).heap.size = w.heap.size + 2 := by simp
  rw [z1] at hn
  exact ⟨⟨w.heap.size, hn, (MapT.made w).below b2, by omega, by omega⟩, b1.trans (b2.mono b1.size)⟩
set_option maxRecDepth 100000 in
set_option maxHeartbeats 1000000 in
theorem tb_new (r : Nat) (w : World) (h1 : 1 ≤ r) (h2 : r ≤ 40) : Calls Tryz.prog 32 #[.int .i64 (r : Int)] w fun x w' => ∃ B, x = .returned (.tuple #[.pointer (some ⟨B, 0, none⟩), .int .i64 0]) ∧ TbP w' (fun k => w.heap.size ≤ k ∧ k < w'.heap.size) B ⟨r, []⟩ ∧ Below w.heap.size w w' := by
  have hmm := @run_makeMap Tryz.prog
  have e1 : decide ((r : Int) < 1) = false := decide_eq_false (by omega)
  have e1' : decide (r < 1) = false := decide_eq_false (by omega)
  have e1'' : decide (r = 0) = false := decide_eq_false (by omega)
  have e2 : decide ((40 : Int) < (r : Int)) = false := decide_eq_false (by omega)
  have e2' : decide (40 < r) = false := decide_eq_false (by omega)
  have HP := Lib.hid (new_tb r w)
  clear h1 h2
  go_enter Tryz.func32, Tryz.ntmps32
  go_wp2
  go_ret2
  exact ⟨_, rfl, HP.out⟩
set_option maxRecDepth 100000 in
set_option maxHeartbeats 1000000 in
theorem tb_new_bad (r : Int) (w : World) (h : ¬ (1 ≤ r ∧ r ≤ 40)) : Calls Tryz.prog 32 #[.int .i64 r] w fun x w' => x = .returned (.tuple #[.pointer none, .int .i64 1]) ∧ w' = w := by
  by_cases h1 : r < 1
  · have e1 : decide (r < 1) = true := decide_eq_true h1
    clear h h1
    go_enter Tryz.func32, Tryz.ntmps32
    go_wp2
    go_ret2
    exact ⟨rfl, rfl⟩
  · have e1 : decide (r < 1) = false := decide_eq_false h1
    have e2 : decide (40 < r) = true := decide_eq_true (by omega)
    clear h h1
    go_enter Tryz.func32, Tryz.ntmps32
    go_wp2
    go_ret2
    exact ⟨rfl, rfl⟩
set_option maxRecDepth 100000 in
set_option maxHeartbeats 1000000 in
theorem tb_may_ok (n : NtV) (w : World) (h : ItOk n) : Calls Tryz.prog 33 #[.agg #[.int .i64 n.f, .int .u64 n.q, .int .u64 n.t, .string n.d, .int .i64 n.k]] w fun x w' => x = .returned (.bool true) ∧ Below w.heap.size w w' := by
  obtain ⟨k, f, q, t, d⟩ := n
  have hk : k = 1 ∨ k = 2 := h.1
  have H := Lib.hid h.2
  have HB := Lib.hid (Kq.below_alloc w (.cells #[.int .i64 f, .int .u64 q, .int .u64 t, .string d, .int .i64 k] 51))
  clear h
  rcases hk with rfl | rfl
  all_goals
    go_enter Tryz.func33, Tryz.ntmps33
    go_wp2_with fail
    refine (pk_check_ok f q t d _ H.out).mono ?_
    rintro x w2 ⟨rfl, b2⟩
    have HB2 := Lib.hid (HB.out.trans (b2.mono HB.out.size))
    clear b2 HB
    go_wp2
    go_ret
    exact ⟨rfl, HB2.out⟩
set_option maxRecDepth 100000 in
set_option maxHeartbeats 1000000 in
theorem tb_may_bad (n : NtV) (w : World) (h : ¬ ItOk n) : Calls Tryz.prog 33 #[.agg #[.int .i64 n.f, .int .u64 n.q, .int .u64 n.t, .string n.d, .int .i64 n.k]] w fun x w' => x = .returned (.bool false) ∧ Below w.heap.size w w' := by
  obtain ⟨k, f, q, t, d⟩ := n
  have HB := Lib.hid (Kq.below_alloc w (.cells #[.int .i64 f, .int .u64 q, .int .u64 t, .string d, .int .i64 k] 51))
  have H := Lib.hid h
  clear h
  by_cases hk : k = 1 ∨ k = 2
  · have HP : Hid (¬ PkOk ⟨f, q, t, d⟩) := Lib.hid (fun hp => H.out ⟨hk, hp⟩)
    rcases hk with rfl | rfl
    all_goals
      go_enter Tryz.func33, Tryz.ntmps33
      go_wp2_with fail
      refine (pk_check_bad f q t d _ HP.out).mono ?_
      rintro x w2 ⟨rfl, b2⟩
      have HB2 := Lib.hid (HB.out.trans (b2.mono HB.out.size))
      clear b2 HB
      go_wp2
      go_ret
      exact ⟨rfl, HB2.out⟩
  · have e1 : (k == 1) = false := by simp only [beq_eq_false_iff_ne]; exact fun h => hk (Or.inl h)
    have e2 : (k == 2) = false := by simp only [beq_eq_false_iff_ne]; exact fun h => hk (Or.inr h)
    clear hk
    go_enter Tryz.func33, Tryz.ntmps33
    go_wp2
    go_ret
    exact ⟨rfl, HB.out⟩
end Go.Proofs.YtkbiolhcpghmkaaGreat
