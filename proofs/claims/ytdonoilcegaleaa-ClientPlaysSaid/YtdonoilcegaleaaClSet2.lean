/- Contract of a client's Set in every case. Condition: it has room. -/
import Derived.WalkSpells
import Derived.Outline
import Derived.Deep.QuietTactic
import Derived.BigQuiet
import Derived.Test.YtdonoilcegaleaaClSet
namespace Go.Proofs.Ytdonoilcegaleaa
open Go.RowKit Go.Cl
set_option linter.unusedVariables false
set_option maxRecDepth 100000 in
set_option maxHeartbeats 2000000 in
theorem cl_set_nil (base C M N : Nat) (f : Int → Option ByteArray) (x : Nat) (hx : x < 18446744073709551616) (s : ByteArray) (w : World) (h : CliS w base C M N (.slice none 0 0) [] f) (hN : N < 1000000) (hs32 : s.size = 32) (hk : ¬ (f (x : Int)).isSome = true) :
    Calls Try.prog 9 #[.pointer (some ⟨C, 0, none⟩), .int .u64 (x : Int), .string s] w fun e w' => e = .returned (.int .i64 0) ∧ SetP w base C M (N + 1) (.slice none 0 0) [x] (updT f x s) w' := by
  obtain ⟨i0, hi, hz0, hz1, hz2⟩ := info_parts infoU
  have H := Lib.hid h
  have hwf : (Lit.int .u64 (x : Int)).wf = true := by simp [Lit.wf, IntKind.min, IntKind.max, IntKind.signed, IntKind.bits]; omega
  have d0 : ((s.size : Int) != 32) = false := by simp; omega
  have d1 : (s.size != 32) = false := by simp; omega
  have c0 := h.c0
  have c1 := h.c1
  have hl := h.mp.look (x : Int) hwf
  rw [Bool.not_eq_true] at hk
  rw [hk] at hl
  have HX := Lib.hid (And.intro hx (And.intro hwf (And.intro hN (And.intro hs32 hk))))
  clear h hs32 hk hx hwf hN
  generalize (f (x : Int)).getD ⟨#[]⟩ = r at *
  go_enter Try.func9, Try.ntmps9
  go_wp2_with fail
  refine (cl_find base C M N _ [] f x _ H.out (by simp)).mono ?_
  rw [show lowC x [] = 0 from rfl]
  rintro e w2 ⟨rfl, b2⟩
  have H2 := Lib.hid (And.intro (H.out.below b2) b2)
  clear b2 c0 c1 hl
  have c1 := H2.out.1.c1
  go_wp2
  go_quiet (fail)
  generalize hwq : w2.drewN nq = wq
  have H3 : Hid (CliS wq base C M N (.slice none 0 0) [] f ∧ Below w.heap.size w wq) := Lib.hid (by rw [← hwq]; exact ⟨H2.out.1.below (below_drewN (Below.refl _ _) _), below_drewN H2.out.2 _⟩)
  clear hwq nq c1 H2
  go_wp2_with (at_builtin; go_loud (refine Kq.wpList_append_any _ rfl (.tmp 48) (.tmp 50) 41 41 rfl wq.heap.size 23 i0 (.int .u64 0) 1 8 Try.underlying41 hi hz0 hz1 hz2 rfl (by decide) (.slice none 0 0) 0 [] rfl (World.ownsRow_nil _ _ _ _) (.slice (some ⟨wq.heap.size, 0, none⟩) 1 1) 1 [Value.int .u64 (x : Int)] rfl ?hs ?h1 ?h2 ?h3 ?_))
  case hs => exact src_one wq x 1 _
  case h1 => unfold maxLen; omega
  case h2 => omega
  case h3 => simp
  intro v1 w4 hown1 hgrow1 hfresh1
  have HO1 : Hid (w4.ownsRow wq.heap.size 23 1 v1 1 [Value.int .u64 (x : Int)]) := Lib.hid (by simpa using hown1)
  have HB4 : Hid (Below wq.heap.size wq w4) := Lib.hid ((Kq.below_alloc wq (.cells #[.int .u64 (x : Int)] 23)).trans ⟨hgrow1.os, hgrow1.tape, hgrow1.output, hgrow1.size, fun k hk => hgrow1.block k (by simp; omega) (fun e => by cases e)⟩)
  have HF1 : Hid (∀ j, v1.ownBlock = some j → wq.heap.size ≤ j) := Lib.hid (fun j hj => by rcases hfresh1 j hj with h | h; cases h; (try simp at h); omega)
  clear hown1 hgrow1 hfresh1
  go_wp2_with (at_builtin; go_loud (refine Kq.wpList_append_any _ rfl (.tmp 51) (.tmp 52) 41 41 rfl wq.heap.size 23 i0 (.int .u64 0) 1 8 Try.underlying41 hi hz0 hz1 hz2 rfl (by decide) v1 1 [Value.int .u64 (x : Int)] rfl HO1.out (.slice none 0 0) 0 [] rfl ?hsq ?h1q ?h2q ?h3q ?_))
  case hsq => exact Src.ofNil _ Try.underlying41 0
  case h1q => unfold maxLen; omega
  case h2q => omega
  case h3q => exact HB4.out.size
  intro v2 w5 hown2 hgrow2 hfresh2
  have hk5 : Kq.Keeps (fun j => wq.heap.size ≤ j) wq w5 := (Kq.Keeps.of_below HB4.out (fun j h1 h2 => h1)).trans (Kq.Keeps.grown hgrow2 (fun j _ hj => HF1.out j hj))
  have hown2 : w5.ownsRow wq.heap.size 23 1 v2 (ins x []).length (hcells (ins x [])) := by simpa [ins, hcells] using hown2
  have hf2 : ∀ j, v2.ownBlock = some j → wq.heap.size ≤ j := fun j hj => by
    rcases hfresh2 j hj with h | h
    · exact HF1.out j h.symm
    · exact Nat.le_trans HB4.out.size h
  have hb5 := hk5.blk H3.out.1.blk (by have := Kq.blk_lt H3.out.1.blk; omega)
  have f1 : w5.frozen? ⟨C, 1, none⟩ = false := Kq.blk_free hb5 1
  have q1 : w5.cell? ⟨C, 1, none⟩ = some (.slice none 0 0) := Kq.blk_cell hb5 1
  have hmt : MapT (w5.setCell ⟨C, 1, none⟩ v2) M N f 0 := (H3.out.1.mp.keeps hk5 (by have := H3.out.1.mp.lt; omega)).keeps (Kq.Keeps.setCell (S := (· = C)) _ _ _ rfl) (fun e => H3.out.1.cm e)
  obtain ⟨w6, hrun, hm6, hk6⟩ := hmt.put HX.out.2.2.1 (x : Int) HX.out.2.1 s (by rw [HX.out.2.2.2.1]; decide)
  rw [HX.out.2.2.2.2] at hm6
  have hq : (w5.setCell ⟨C, 1, none⟩ v2).cell? ⟨C, 0, none⟩ = some (.map (some M)) := Kq.blk_cell (Kq.blk_set hb5 1 v2) 0
  obtain ⟨r1, r2, r3⟩ := set_close H3.out.1 hk5 hown2 hf2 (by simpa using hm6) hk6 (ins_ok H3.out.1.ok HX.out.1 HX.out.2.2.2.1 (by rw [HX.out.2.2.2.2]; decide))
  have HZ : Hid (SetP w base C M (N + 1) (.slice none 0 0) [x] (updT f x s) w6) := Lib.hid ⟨v2, r1, (Kq.Keeps.of_below H3.out.2 (fun j h1 h2 => absurd h1 (Nat.not_le.2 h2))).trans r2, fun j hj => Or.inr (Nat.le_trans H3.out.2.size (r3 j hj))⟩
  obtain ⟨a', n', cap', hv⟩ := Kq.own_shape hown2
  clear hown2 hgrow2 hfresh2 hf2 hk5 hb5 hmt hm6 hk6 r1 r2 r3
  rw [hv] at hrun hq ⊢
  clear hv
  go_wp2
  go_ret
  exact ⟨rfl, HZ.out⟩

theorem cl_set (base C M N : Nat) (v : Value) (hs : List Nat) (f : Int → Option ByteArray) (x : Nat) (hx : x < 18446744073709551616) (s : ByteArray) (hsm : s.size ≤ maxLen) (w : World) (h : CliS w base C M N v hs f) (hn : hs.length ≤ 4000) (hN : N < 1000000) :
    Calls Try.prog 9 #[.pointer (some ⟨C, 0, none⟩), .int .u64 (x : Int), .string s] w fun e w' => e = .returned (.int .i64 (setF x s hs f).2.2) ∧ SetP w base C M (N + 1) v (setF x s hs f).1 (setF x s hs f).2.1 w' := by
  have hup : CliS w base C M (N + 1) v hs f := ⟨h.blk, h.own, h.mp.up (Nat.le_succ _), h.ne, h.cm, h.base, h.ok⟩
  unfold setF
  by_cases h32 : s.size = 32
  · rw [if_pos h32]
    by_cases hk : (f (x : Int)).isSome = true
    · rw [if_pos hk]
      refine (cl_set_twice base C M N v hs f x hx s w h hn h32 hk).mono ?_
      rintro e w' ⟨rfl, rfl⟩
      exact ⟨rfl, v, hup, Kq.Keeps.refl _ _, fun j hj => Or.inl hj⟩
    · rw [if_neg hk]
      rcases h.own.2 with ⟨hv, h0⟩ | ⟨g, cap, cur, hv, _⟩
      · have : hs = [] := List.eq_nil_of_length_eq_zero h0
        subst this
        subst hv
        exact cl_set_nil base C M N f x hx s w h hN h32 hk
      · subst hv
        exact cl_set_ok base C M N g cap hs f x hx s w h hn hN h32 hk
  · rw [if_neg h32]
    refine (cl_set_bad base C M N v hs f x hx s w h hn h32 hsm).mono ?_
    rintro e w' ⟨rfl, rfl⟩
    exact ⟨rfl, v, hup, Kq.Keeps.refl _ _, fun j hj => Or.inl hj⟩
end Go.Proofs.Ytdonoilcegaleaa
