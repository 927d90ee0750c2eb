/- Lists of items made anew, beside the document's table. No condition. -/
import Derived.WalkSpells
import Derived.Outline
import Derived.Deep.QuietTactic
import Derived.BigQuiet
import Derived.Test.YtmckpoeolfggmaaTrP
import Derived.Test.YtmckpoeolfggmaaHeldLast
namespace Go.Proofs.Ytmckpoeolfggmaa
open Go.RowKit Go.Kq
set_option linter.unusedVariables false
/-- the address of x[n:] -/
def subI (A : Option Addr) (c n : Nat) : Option Addr := if c = n then A else A.map (·.add (n * 5))
set_option maxRecDepth 100000 in
theorem subI_run (A : Option Addr) (n c a : Nat) (h1 : a ≤ n) (w : World) : (Instr.slice 33 (.slice A n c) (some (.int .i64 (a : Int))) none none).run Try.prog w = .ok (.slice (subI A c a) (n - a) (c - a)) w := by
  rw [run_slice_l w 33 A n c Try.underlying33 .i64 (a : Int) (by omega) (by omega)]
  rfl
set_option maxRecDepth 100000 in
theorem preI_run (A : Option Addr) (n c m : Nat) (h2 : m ≤ c) (w : World) : (Instr.slice 33 (.slice A n c) none (some (.int .i64 (m : Int))) none).run Try.prog w = .ok (.slice A m c) w := by
  rw [run_slice_h w 33 A n c Try.underlying33 .i64 (m : Int) (by omega) (by omega)]
  have hs : (sizeOf (Try.prog.elem 33)).run Try.prog w = .ok 5 w := by kernel_rfl
  rw [hs]
  cases A <;> simp [sliced, Result.andThen, Addr.add_zero']
theorem subI_at {w : World} {A : Option Addr} {l : List NtV} {c : Nat} (h : EnAt NtV.ic w A l) (hc : l.length ≤ c) (n : Nat) : ItE.At w (subI A c n) (l.drop n) := by
  intro i hi
  have hl := List.length_drop (i := n) (l := l)
  obtain ⟨b, off, e, h1, h2⟩ := ItE.en.2 h (n + i) (by omega)
  subst e
  unfold subI
  rw [if_neg (by omega), Option.map_some]
  refine ⟨b, off + n * 5, by rw [Kq.Elt.add_flat], h1, fun j hj => ?_⟩
  rw [List.getElem_drop, ← h2 j hj]
  congr 2
  show off + n * 5 + i * 5 + j = off + (n + i) * 5 + j
  omega
theorem src_sub {w : World} {A : Option Addr} {l : List NtV} {c : Nat} (h : EnAt NtV.ic w A l) (hc : l.length ≤ c) (n r : Nat) (hr : r = l.length - n) : Src Try.prog 5 33 (.slice (subI A c n) r (c - n)) r (ItE.flat (l.drop n)) w := by
  have := (subI_at h hc n).srcA Try.underlying33 (c - n)
  rw [List.length_drop, ← hr] at this
  exact this
theorem src_pre {w : World} {A : Option Addr} {l : List NtV} (c : Nat) (h : EnAt NtV.ic w A l) (n : Nat) (hn : n ≤ l.length) : Src Try.prog 5 33 (.slice A n c) n (ItE.flat (l.take n)) w := by
  have := ((ItE.en.2 h).take n).srcA Try.underlying33 c
  rw [List.length_take, Nat.min_eq_left hn] at this
  exact this
/-- a list under way: its row is newer than wd, nothing older changed -/
structure RwI (wd w : World) (v : Value) (xs : List NtV) : Prop where
  row : w.ownsRow wd.heap.size 48 5 v xs.length (ItE.flat xs)
  kp : Kq.Keeps (fun k => wd.heap.size ≤ k) wd w
section
variable {wd w w' : World} {v v' : Value} {xs ys : List NtV}
theorem RwI.start (wd : World) : RwI wd (wd.alloc (.cells #[] 48)) (.slice (some ⟨wd.heap.size, 0, none⟩) 0 0) [] :=
  ⟨⟨rfl, Or.inr ⟨wd.heap.size, 0, #[], rfl, Nat.le_refl _, Kq.blk_new wd #[] 48 (0, 0), Nat.le_refl _, by decide, rfl, rfl⟩⟩, Kq.Keeps.alloc _ _ _⟩
theorem RwI.app (h : RwI wd w v xs) {m : Nat} (hown : w'.ownsRow wd.heap.size 48 5 v' (xs.length + m) (ItE.flat xs ++ ItE.flat ys)) (hm : ys.length = m) (hg : w.grownBy w' v.ownBlock) : RwI wd w' v' (xs ++ ys) :=
  ⟨by rw [List.length_append, ItE.flat_append, hm]; exact hown, h.kp.trans (Kq.Keeps.grown hg (fun k _ e => own_geF h.row e))⟩
theorem RwI.below (h : RwI wd w v xs) (hb : Below w.heap.size w w') : RwI wd w' v xs := ⟨own_belowF h.row hb, h.kp.trans (Kq.Keeps.of_below hb (fun k h1 h2 => absurd h2 (Nat.not_lt.2 h1)))⟩
theorem RwI.size (h : RwI wd w v xs) : wd.heap.size ≤ w.heap.size := h.kp.size
theorem RwI.shape (h : RwI wd w v xs) : ∃ A c, v = .slice A xs.length c := by
  obtain ⟨A, c, e, _⟩ := Kq.Elt.own_at h.row
  exact ⟨A, c, e⟩
/-- what is older stands as it stood -/
theorem RwI.rt {O : Nat → Prop} {B : Nat} {s : TbV} {An : Option Addr} {cn : Nat} (h : RwI wd w v xs) (hr : RT wd O B s An cn) (hO : ∀ k, O k → k < wd.heap.size) : RT w O B s An cn := hr.keeps h.kp (fun k hk => by have := hO k hk; omega)
/-- stored into the table, the list is its list -/
theorem RwI.done {O : Nat → Prop} {B : Nat} {s : TbV} {An : Option Addr} {cn : Nat} {A : Option Addr} {c : Nat} (h : RwI wd w (.slice A xs.length c) xs) (hr : RT wd O B s An cn) (hO : ∀ k, O k → k < wd.heap.size) {r : Value} : StepR wd O B r ⟨s.room, xs⟩ (.returned r) (w.setCell ⟨B, 0, none⟩ (.slice A xs.length c)) := by
  have hr2 := h.rt hr hO
  have hB := hO B hr.oB
  have hks : Kq.Keeps (· = B) w (w.setCell ⟨B, 0, none⟩ (.slice A xs.length c)) := Kq.Keeps.setCell _ _ _ rfl
  obtain ⟨A', c', e, hc, hat, hge, _⟩ := Kq.Elt.own_at h.row
  injection e with e1 e2 e3
  subst e1 e3
  refine ⟨rfl, ⟨A, c, Kq.blk_set hr2.blk 0 _, (ItE.en.1 hat).keeps hks (fun g o e hg => ?_), fun b off e => ⟨Or.inr ⟨hge b off e, ?_⟩, ?_, fun hb => ?_⟩, hc, Or.inl hr.oB⟩, ?_⟩
  · have h1 := hge g o e
    have h2 : g = B := hg
    omega
  · exact Nat.lt_of_lt_of_le (own_ltK h.row (by rw [e]; rfl)) hks.size
  · exact Nat.lt_of_lt_of_le (own_ltK h.row (by rw [e]; rfl)) hks.size
  · have h1 := hge b off e
    omega
  · refine ⟨hks.os.trans h.kp.os, hks.tape.trans h.kp.tape, hks.output.trans h.kp.output, Nat.le_trans h.kp.size hks.size, fun k hk hn => ?_⟩
    rw [hks.block k (Nat.lt_of_lt_of_le hk h.kp.size) (fun e => hn (by rw [show k = B from e]; exact hr.oB)), h.kp.block k hk (Nat.not_le.2 hk)]
end
section
variable (w : World) (O : Nat → Prop) (B : Nat) (s : TbV)
set_option maxRecDepth 100000 in
set_option maxHeartbeats 2000000 in
theorem rt_drop (f q : Int) (h : RtP w O B s) (hs : tbR.Sort s.l) (h1000 : s.l.length ≤ 1000) (hO : ∀ k, O k → k < w.heap.size) : Calls Try.prog 28 #[.pointer (some ⟨B, 0, none⟩), .int .i64 f, .int .u64 q] w (StepR w O B (.int .i64 (drpV s f q).2) (drpV s f q).1) := by
  obtain ⟨i0, hi0, hz0, hz1, hz2⟩ := info_partsF infoIt
  have HF := Lib.hid (rt_place w O B s f q h hs h1000)
  have H := Lib.hid h
  have HO := Lib.hid hO
  have HIL := Lib.hid (Ord.isAt_look hs (f, q))
  have hcut := fun y => Ord.del_cut s.l (f, q) y hs
  obtain ⟨I, hI⟩ : ∃ I, I = tbR.isAt s.l (f, q) := ⟨_, rfl⟩
  obtain ⟨p, hp⟩ : ∃ p, p = tbR.plc s.l (f, q) := ⟨_, rfl⟩
  have hlt : I = true → p < s.l.length := fun e => by rw [hI] at e; rw [hp]; exact (of_decide_eq_true e).1
  rw [← hI, ← hp] at HF
  rw [← hp] at hcut
  rw [← hI] at HIL
  obtain ⟨n, hn⟩ : ∃ n, n = s.l.length := ⟨_, rfl⟩
  have HN := Lib.hid hn
  rw [← hn] at hlt h1000
  clear h hs hO hI hp hn
  go_enter Try.func28, Try.ntmps28
  go_wp2_with fail
  refine HF.out.mono ?_
  rintro x w1 ⟨rfl, n1, hw1⟩
  have HW : Hid (Below w.heap.size w w1) := Lib.hid (by rw [hw1]; exact below_drewN (Below.refl _ _) _)
  clear hw1 HF
  cases I with
  | false =>
    have HE : Hid (drpV s f q = (s, 3)) := Lib.hid (if_pos (by
      cases e : tbR.look s.l (f, q) with
      | none => rfl
      | some v => have := HIL.out; rw [e] at this; cases this))
    clear hlt hcut
    go_wp2
    go_ret
    rw [HE.out]
    exact StepR.same H.out HW.out rfl
  | true =>
    obtain ⟨y, hy⟩ : ∃ y, tbR.look s.l (f, q) = some y := by
      cases e : tbR.look s.l (f, q) with
      | none => have := HIL.out; rw [e] at this; cases this
      | some v => exact ⟨v, rfl⟩
    have HE : Hid (drpV s f q = (⟨s.room, tbR.del s.l (f, q)⟩, 0)) := Lib.hid (if_neg (by rw [hy]; simp))
    have HCUT := Lib.hid (hcut y hy)
    have hpn := hlt rfl
    obtain ⟨An, cn, hr⟩ := (H.out.below HW.out).below (Below.refl w1.heap.size w1).drew
    have hcap := hr.cap
    rw [← HN.out] at hcap
    obtain ⟨r, hrr⟩ : ∃ r, r = n - (p + 1) := ⟨_, rfl⟩
    have HR : Hid (RT w1.drew O B s An cn ∧ (∀ k, O k → k < w1.drew.heap.size) ∧ Below w.heap.size w w1.drew ∧ r = s.l.length - (p + 1) ∧ r ≤ 1000 ∧ p ≤ 1000 ∧ p ≤ s.l.length) := Lib.hid ⟨hr, fun k hk => Nat.lt_of_lt_of_le (HO.out k hk) HW.out.size, HW.out.drew, by rw [hrr, HN.out], by omega, by omega, by have := HN.out; omega⟩
    have hw1 : IntKind.i64.wrap ((p : Int) + 1) = ((p + 1 : Nat) : Int) := by rw [IntWalk.i64_in _ (by omega)]; omega
    have sl := fun wx => subI_run An n cn (p + 1) (by omega) wx
    have pl := fun wx => preI_run An n cn p (by omega) wx
    rw [← hrr] at sl
    obtain ⟨A2, hA2⟩ : ∃ A2, A2 = subI An cn (p + 1) := ⟨_, rfl⟩
    rw [← hA2] at sl
    have HA2 : Hid (A2 = subI An cn (p + 1)) := Lib.hid hA2
    have HC : Hid (∀ w', RT w' O B s An cn → w'.cell? ⟨B, 0, none⟩ = some (.slice An n cn)) := Lib.hid (fun w' h => by rw [HN.out]; exact h.c0)
    obtain ⟨p1, hp1⟩ : ∃ p1, p1 = p + 1 := ⟨_, rfl⟩
    rw [← hp1] at sl hw1 HA2
    have HP1 := Lib.hid hp1
    obtain ⟨c2, hc2⟩ : ∃ c2, c2 = cn - p1 := ⟨_, rfl⟩
    rw [← hc2] at sl
    have HC2 := Lib.hid hc2
    clear hlt hcut hy hr hcap hrr hA2 hpn h1000 hp1 hc2
    have hpi : (0 : Int) ≤ (p : Int) := by omega
    go_wp2
    refine Kq.wp_region_T 19 (fun cur => cur.cell? ⟨B, 0, none⟩ = some (.slice An n cn)) (by kernel_rfl) (HC.out _ HR.out.1) (fun hS0 => ?_)
    obtain ⟨wd, hwd⟩ : ∃ z, z = w1.drew := ⟨_, rfl⟩
    rw [← hwd] at hS0 HR ⊢
    clear hwd
    refine Kq.wpAnyT_take (i := 0) (v := ?_) rfl rfl (by kernel_rfl) (by kernel_rfl) (by kernel_rfl) (by kernel_rfl) (fun _ _ _ h => h) (Or.inl ⟨by kernel_rfl, ?_⟩) (by assumption) ?_
    rotate_left
    · intro w hSw; (try dsimp only at hSw); go_simp; (try with_reducible rfl)
    refine Kq.wpAnyT_take (i := 2) (v := ?_) rfl rfl (by kernel_rfl) (by kernel_rfl) (by kernel_rfl) (by kernel_rfl) (fun _ _ _ h => h) (Or.inl ⟨by kernel_rfl, ?_⟩) (by assumption) ?_
    rotate_left
    · intro w hSw; (try dsimp only at hSw); go_simp; (try with_reducible rfl)
    refine Kq.wpAnyT_take (i := 3) (v := ?_) rfl rfl (by kernel_rfl) (by kernel_rfl) (by kernel_rfl) (by kernel_rfl) (fun _ _ _ h => h) (Or.inl ⟨by kernel_rfl, ?_⟩) (by assumption) ?_
    rotate_left
    · intro w hSw; (try dsimp only at hSw); go_simp; (try with_reducible rfl)
    refine Kq.wpAnyT_take (i := 4) (v := ?_) rfl rfl (by kernel_rfl) (by kernel_rfl) (by kernel_rfl) (by kernel_rfl) (fun _ _ _ h => h) (Or.inl ⟨by kernel_rfl, ?_⟩) (by assumption) ?_
    rotate_left
    · intro w hSw; (try dsimp only at hSw); go_simp; (try with_reducible rfl)
    refine Kq.wpAnyT_take (i := 5) (v := ?_) rfl rfl (by kernel_rfl) (by kernel_rfl) (by kernel_rfl) (by kernel_rfl) (fun _ _ _ h => h) (Or.inl ⟨by kernel_rfl, ?_⟩) (by assumption) ?_
    rotate_left
    · intro w hSw; (try dsimp only at hSw); go_simp; (try with_reducible rfl)
    refine Kq.wpAnyT_take (i := 6) (v := ?_) rfl rfl (by kernel_rfl) (by kernel_rfl) (by kernel_rfl) (by kernel_rfl) (fun _ _ _ h => h) (Or.inl ⟨by kernel_rfl, ?_⟩) (by assumption) ?_
    rotate_left
    · intro w hSw; (try dsimp only at hSw); go_simp; (try with_reducible rfl)
    refine Kq.wpAnyT_take (i := 7) (v := ?_) rfl rfl (by kernel_rfl) (by kernel_rfl) (by kernel_rfl) (by kernel_rfl) (fun _ _ _ h => h) (Or.inl ⟨by kernel_rfl, ?_⟩) (by assumption) ?_
    rotate_left
    · intro w hSw; (try dsimp only at hSw); go_simp; (try with_reducible rfl)
    refine Kq.wpAnyT_take (i := 9) (v := ?_) rfl rfl (by kernel_rfl) (by kernel_rfl) (by kernel_rfl) (by kernel_rfl) (fun _ _ _ h => h) (Or.inl ⟨by kernel_rfl, ?_⟩) (by assumption) ?_
    rotate_left
    · intro w hSw; (try dsimp only at hSw); go_simp; (try with_reducible rfl)
    refine Kq.wpAnyT_take (i := 10) (v := ?_) rfl rfl (by kernel_rfl) (by kernel_rfl) (by kernel_rfl) (by kernel_rfl) (fun _ _ _ h => h) (Or.inl ⟨by kernel_rfl, ?_⟩) (by assumption) ?_
    rotate_left
    · intro w hSw; (try dsimp only at hSw); go_simp; (try with_reducible rfl)
    refine Kq.wpAnyT_take (i := 11) (v := ?_) rfl rfl (by kernel_rfl) (by kernel_rfl) (by kernel_rfl) (by kernel_rfl) (fun _ _ _ h => h) (Or.inl ⟨by kernel_rfl, ?_⟩) (by assumption) ?_
    rotate_left
    · intro w hSw; (try dsimp only at hSw); go_simp; (try with_reducible rfl)
    refine Kq.wpAnyT_take (i := 12) (v := ?_) rfl rfl (by kernel_rfl) (by kernel_rfl) (by kernel_rfl) (by kernel_rfl) (fun _ _ _ h => h) (Or.inl ⟨by kernel_rfl, ?_⟩) (by assumption) ?_
    rotate_left
    · intro w hSw; (try dsimp only at hSw); go_simp; (try with_reducible rfl)
    refine Kq.wpAnyT_take (i := 13) (v := ?_) rfl rfl (by kernel_rfl) (by kernel_rfl) (by kernel_rfl) (by kernel_rfl) (fun _ _ _ h => h) (Or.inl ⟨by kernel_rfl, ?_⟩) (by assumption) ?_
    rotate_left
    · intro w hSw; (try dsimp only at hSw); go_simp; (try with_reducible rfl)
    refine Kq.wpAnyT_take (i := 14) (v := ?_) rfl rfl (by kernel_rfl) (by kernel_rfl) (by kernel_rfl) (by kernel_rfl) (fun _ _ _ h => h) (Or.inl ⟨by kernel_rfl, ?_⟩) (by assumption) ?_
    rotate_left
    · intro w hSw; (try dsimp only at hSw); go_simp; (try with_reducible rfl)
    refine Kq.wpAnyT_take (i := 15) (v := ?_) rfl rfl (by kernel_rfl) (by kernel_rfl) (by kernel_rfl) (by kernel_rfl) (fun _ _ _ h => h) (Or.inl ⟨by kernel_rfl, ?_⟩) (by assumption) ?_
    rotate_left
    · intro w hSw; (try dsimp only at hSw); go_simp; (try with_reducible rfl)
    refine Kq.wpAnyT_one (i := 1) (by kernel_rfl) rfl (fun K hK => ?_)
    go_simp
    have HX := Lib.hid (RwI.start wd)
    have HS1 := Lib.hid (src_pre cn (HX.out.rt HR.out.1 HR.out.2.1).at_ p HR.out.2.2.2.2.2.2)
    refine hK.out _ _ (HC.out _ (HX.out.rt HR.out.1 HR.out.2.1)) (fun hS0 => ?_)
    clear hK K hS0
    refine Kq.wpAnyT_one (i := 8) (by kernel_rfl) rfl (fun K hK => ?_)
    rw [if_pos (by kernel_rfl)]
    refine Kq.wp_append_any _ (.tmp 19) (.tmp 25) 33 33 rfl wd.heap.size 48 i0 (.agg #[.int .i64 0, .int .u64 0, .int .u64 0, .string ⟨#[]⟩, .int .i64 0]) 5 48 Try.underlying33 hi0 hz0 hz1 hz2 rfl (by decide) (.slice (some ⟨wd.heap.size, 0, none⟩) 0 0) 0 (ItE.flat []) (by kernel_rfl) HX.out.row (.slice An p cn) p (ItE.flat (s.l.take p)) (by kernel_rfl) HS1.out ?h1 ?h2 HX.out.size ?_
    case h1 => have := HR.out.2.2.2.2.2.1; unfold maxLen; omega
    case h2 => have := HR.out.2.2.2.2.2.1; omega
    intro v3 w3 hown3 hgrow hfresh
    have H3 : Hid (RwI wd w3 v3 (s.l.take p)) := Lib.hid (by
      have := HX.out.app hown3 (by rw [List.length_take, Nat.min_eq_left HR.out.2.2.2.2.2.2]) hgrow
      simpa using this)
    clear hown3 hgrow hfresh HX HS1
    have HS3 : Hid (Src Try.prog 5 33 (.slice A2 r c2) r (ItE.flat (s.l.drop p1)) w3) := Lib.hid (by
      rw [HA2.out, HC2.out]; exact src_sub (H3.out.rt HR.out.1 HR.out.2.1).at_ (H3.out.rt HR.out.1 HR.out.2.1).cap p1 r (by rw [HP1.out]; exact HR.out.2.2.2.1))
    have HL3 : Hid (w3.ownsRow wd.heap.size 48 5 v3 p (ItE.flat (s.l.take p))) := Lib.hid (by
      have := H3.out.row
      rw [List.length_take, Nat.min_eq_left HR.out.2.2.2.2.2.2] at this
      exact this)
    refine hK.out _ _ (HC.out _ (H3.out.rt HR.out.1 HR.out.2.1)) (fun hS0 => ?_)
    clear hK K hS0
    refine Kq.wpAnyT_one (i := 16) (by kernel_rfl) rfl (fun K hK => ?_)
    rw [if_pos (by kernel_rfl)]
    refine Kq.wp_append_any _ (.tmp 26) (.tmp 33) 33 33 rfl wd.heap.size 48 i0 (.agg #[.int .i64 0, .int .u64 0, .int .u64 0, .string ⟨#[]⟩, .int .i64 0]) 5 48 Try.underlying33 hi0 hz0 hz1 hz2 rfl (by decide) v3 p (ItE.flat (s.l.take p)) (by kernel_rfl) HL3.out (.slice A2 r c2) r (ItE.flat (s.l.drop p1)) (by kernel_rfl) HS3.out ?h4 ?h5 H3.out.size ?_
    case h4 => have := HR.out.2.2.2.2; unfold maxLen; omega
    case h5 => have := HR.out.2.2.2.2; omega
    intro v5 w5 hown5 hgrow hfresh
    have H5 : Hid (RwI wd w5 v5 (tbR.del s.l (f, q))) := Lib.hid (by
      rw [HCUT.out]
      have := H3.out.app (ys := s.l.drop (p + 1)) (m := r) (v' := v5) (w' := w5) (by rw [List.length_take, Nat.min_eq_left HR.out.2.2.2.2.2.2, ← HP1.out]; exact hown5) (by rw [List.length_drop]; exact HR.out.2.2.2.1.symm) hgrow
      exact this)
    clear hown5 hgrow hfresh HS3 HL3 H3
    obtain ⟨A5, c5, rfl⟩ := H5.out.shape
    refine hK.out _ _ (HC.out _ (H5.out.rt HR.out.1 HR.out.2.1)) (fun hS0 => ?_)
    clear hK K
    refine Kq.wpAnyT_one (i := 17) (by kernel_rfl) rfl (fun K hK => ?_)
    go_simp
    refine hK.out _ _ (HC.out _ (H5.out.rt HR.out.1 HR.out.2.1)) (fun hS0 => ?_)
    clear hK K
    have f0 := (H5.out.rt HR.out.1 HR.out.2.1).fz 0
    have c0 := (H5.out.rt HR.out.1 HR.out.2.1).c0
    have HEND : Hid (StepR w O B (.int .i64 0) ⟨s.room, tbR.del s.l (f, q)⟩ (.returned (.int .i64 0)) (w5.setCell ⟨B, 0, none⟩ (.slice A5 (tbR.del s.l (f, q)).length c5))) := Lib.hid (StepR.from HR.out.2.2.1 (H5.out.done HR.out.1 HR.out.2.1))
    clear H5 hS0
    refine Kq.wpAnyT_take (i := 18) (v := ?_) rfl rfl (by kernel_rfl) (by kernel_rfl) (by kernel_rfl) (by kernel_rfl) (fun _ _ _ h => h) (Or.inl ⟨by kernel_rfl, ?_⟩) (by assumption) ?_
    rotate_left
    · intro w hSw; (try dsimp only at hSw); go_simp; (try with_reducible rfl)
    refine Kq.wpAnyT_last (by kernel_rfl) rfl (fun K hK => ?_)
    go_simp
    refine hK.out _ _ ?_
    clear hK K
    refine Kq.wpAnyT_done (by kernel_rfl) ?_ _
    go_wp2
    go_ret
    rw [HE.out]
    exact HEND.out
end
end Go.Proofs.Ytmckpoeolfggmaa
