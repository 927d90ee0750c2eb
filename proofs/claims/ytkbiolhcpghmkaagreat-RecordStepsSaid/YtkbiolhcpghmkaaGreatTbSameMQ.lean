/- Merged: TrP, TrRow, TrGet, TbSameM. The document's table in memory; contracts of its place, Get. Condition: it is in order. Lists of items made anew, beside the document's table. No condition. Contracts of the document's Get, Copy. Condition: it is in order. Mathematics of tables: what is made of a table's own items. No condition. -/
import Derived.WalkSpells
import Derived.Outline
import Derived.Deep.QuietTactic
import Derived.BigQuiet
import Derived.Test.YtkbiolhcpghmkaaGreatTbOfQ
import Derived.Test.YtkbiolhcpghmkaaGreatHeldLastQ
import Derived.Deep.RegionHeld
import Derived.Test.YtkbiolhcpghmkaaGreatFillIQ
namespace Go.Proofs.YtkbiolhcpghmkaaGreat
open Go.RowKit Go.Kq
set_option linter.unusedVariables false
structure RT (w : World) (O : Nat → Prop) (B : Nat) (s : TbV) (An : Option Addr) (cn : Nat) : Prop where
  blk : w.heap[B]? = some (.cells #[.slice An s.l.length cn, .int .i64 (s.room : Int)] 67 (0, 0))
  at_ : EnAt NtV.ic w An s.l
  o : ∀ b off, An = some ⟨b, off, none⟩ → O b ∧ b < w.heap.size ∧ b ≠ B
  cap : s.l.length ≤ cn
  oB : O B
def RtP (w : World) (O : Nat → Prop) (B : Nat) (s : TbV) : Prop := ∃ An cn, RT w O B s An cn
section
variable {w w' : World} {O O' : Nat → Prop} {B : Nat} {s : TbV} {An : Option Addr} {cn : Nat}
theorem RT.c0 (h : RT w O B s An cn) : w.cell? ⟨B, 0, none⟩ = some (.slice An s.l.length cn) := Kq.blk_cell h.blk 0
theorem RT.c1 (h : RT w O B s An cn) : w.cell? ⟨B, 1, none⟩ = some (.int .i64 (s.room : Int)) := Kq.blk_cell h.blk 1
theorem RT.fz (h : RT w O B s An cn) (j : Nat) : w.frozen? ⟨B, j, none⟩ = false := Kq.blk_free h.blk j
theorem RT.lt (h : RT w O B s An cn) : B < w.heap.size := Kq.blk_lt h.blk
theorem RT.keeps {S : Nat → Prop} (h : RT w O B s An cn) (hk : Kq.Keeps S w w') (hS : ∀ k, O k → ¬ S k) : RT w' O B s An cn :=
  ⟨hk.blk h.blk (hS _ h.oB), h.at_.keeps hk (fun g o e => hS _ (h.o g o e).1), fun b off e => ⟨(h.o b off e).1, Nat.lt_of_lt_of_le (h.o b off e).2.1 hk.size, (h.o b off e).2.2⟩, h.cap, h.oB⟩
theorem RT.mono (h : RT w O B s An cn) (hO : ∀ k, O k → O' k) : RT w O' B s An cn := ⟨h.blk, h.at_, fun b off e => ⟨hO _ (h.o b off e).1, (h.o b off e).2⟩, h.cap, hO _ h.oB⟩
theorem RtP.keeps {S : Nat → Prop} (h : RtP w O B s) (hk : Kq.Keeps S w w') (hS : ∀ k, O k → ¬ S k) : RtP w' O B s := by
  obtain ⟨An, cn, h⟩ := h
  exact ⟨An, cn, h.keeps hk hS⟩
theorem RtP.mono (h : RtP w O B s) (hO : ∀ k, O k → O' k) : RtP w O' B s := by
  obtain ⟨An, cn, h⟩ := h
  exact ⟨An, cn, h.mono hO⟩
theorem RtP.below (h : RtP w O B s) (hb : Below w.heap.size w w') : RtP w' O B s := h.keeps (keepsF (O := O) hb) (fun _ _ h => h)
theorem RtP.drewN (h : RtP w O B s) (n : Nat) : RtP (w.drewN n) O B s := h.below (below_drewN (Below.refl _ _) n)
end
/-- what a call tells that may change the document's table -/
def StepR (w : World) (O : Nat → Prop) (B : Nat) (r : Value) (s' : TbV) (x : Ending) (w' : World) : Prop := x = .returned r ∧ RtP w' (Ext O w w') B s' ∧ Kq.Keeps O w w'
theorem StepR.same {w w' : World} {O : Nat → Prop} {B : Nat} {r : Value} {s : TbV} (h : RtP w O B s) (hb : Below w.heap.size w w') {x : Ending} (hx : x = .returned r) : StepR w O B r s x w' :=
  ⟨hx, (h.below hb).mono (fun k hk => Or.inl hk), Kq.Keeps.of_below hb (fun k h1 h2 => absurd h2 (Nat.not_lt.2 h1))⟩
theorem StepR.from {w w1 w' : World} {O : Nat → Prop} {B : Nat} {r : Value} {s' : TbV} {x : Ending} (hb : Below w.heap.size w w1) (h : StepR w1 O B r s' x w') : StepR w O B r s' x w' := by
  obtain ⟨An, cn, hp⟩ := h.2.1
  have h1 := hb.size
  have h2 := h.2.2.size
  refine ⟨h.1, ⟨An, cn, hp.mono (fun k hk => ?_)⟩, (Kq.Keeps.of_below hb (fun k h1 h2 => absurd h2 (Nat.not_lt.2 h1))).trans h.2.2⟩
  rcases hk with hk | hk
  · exact Or.inl hk
  · exact Or.inr (by omega)
theorem plc_step {l : List NtV} {k : NmV} (hs : tbR.Sort l) (j : Nat) (h : j < l.length) : (j < tbR.plc l k → ltN l[j].nm k = true) ∧ (j = tbR.plc l k → ltN l[j].nm k = false) :=
  ⟨fun hj => Ord.plc_lt l k j h hj, fun hj => by subst hj; exact Ord.plc_at l k h⟩
section
variable (w : World) (O : Nat → Prop) (B : Nat) (s : TbV)
set_option maxRecDepth 100000 in
set_option maxHeartbeats 2000000 in
theorem rt_place (f q : Int) (h : RtP w O B s) (hs : tbR.Sort s.l) (h1000 : s.l.length ≤ 1000) : Calls Tryz.prog 47 #[.pointer (some ⟨B, 0, none⟩), .int .i64 f, .int .u64 q] w fun x w' => x = .returned (.tuple #[.int .i64 (tbR.plc s.l (f, q) : Nat), .bool (tbR.isAt s.l (f, q))]) ∧ ∃ n, w' = w.drewN n := by
  obtain ⟨An, cn, h⟩ := h
  have c0 := h.c0
  have HA := Lib.hid h.at_
  obtain ⟨l, hl⟩ : ∃ l, l = s.l := ⟨_, rfl⟩
  rw [← hl] at c0 HA hs h1000 ⊢
  have HS := Lib.hid hs
  obtain ⟨p, hp⟩ : ∃ p, p = tbR.plc l (f, q) := ⟨_, rfl⟩
  have hple : p ≤ l.length := by rw [hp]; exact Ord.plc_le l _
  have HP := Lib.hid hp
  have HIA : Hid (∀ (h : p < l.length), tbR.isAt l (f, q) = ((l[p].f == f) && (l[p].q == q))) := Lib.hid (fun hlt => by
    subst hp
    unfold Ord.isAt
    by_cases g : tbR.key l[tbR.plc l (f, q)] = (f, q)
    · have g' : (l[tbR.plc l (f, q)].f, l[tbR.plc l (f, q)].q) = (f, q) := g
      injection g' with g1 g2
      rw [decide_eq_true ⟨hlt, g⟩, g1, g2]; simp
    · rw [decide_eq_false (fun ⟨_, h'⟩ => g h'), eq_comm, Bool.and_eq_false_iff]
      by_cases e : l[tbR.plc l (f, q)].f = f
      · right
        rw [beq_eq_false_iff_ne]
        intro e2
        exact g (by show (_, _) = _; rw [e, e2])
      · left; rw [beq_eq_false_iff_ne]; exact e)
  have HIN : Hid (p = l.length → tbR.isAt l (f, q) = false) := Lib.hid (fun e => by
    unfold Ord.isAt
    rw [← hp]
    exact decide_eq_false (fun ⟨h', _⟩ => by omega))
  rw [← hp]
  obtain ⟨n, hn⟩ : ∃ n, n = l.length := ⟨_, rfl⟩
  rw [← hn] at c0 hple h1000
  have HN := Lib.hid hn
  have HPL := Lib.hid hple
  obtain ⟨R, hR⟩ : ∃ R, R = tbR.isAt l (f, q) := ⟨_, rfl⟩
  rw [← hR] at HIA HIN ⊢
  clear h hs hl hp hn hple hR
  go_enter Tryz.func47, Tryz.ntmps47
  go_wp2
  go_loopw [8] (fun u wr => ∃ j : Nat, j ≤ p ∧ u = .int .i64 (j : Int) ∧ wr = w) (fun u _ => p - (intOf u).toNat)
  case atStart => exact ⟨0, by omega, rfl, rfl⟩
  case round =>
    obtain ⟨j, hj, rfl, rfl⟩ := hrel
    have hple := HPL.out
    by_cases hjn : j < n
    · have hjl : j < l.length := by rw [← HN.out]; exact hjn
      have hst := plc_step (k := (f, q)) HS.out j hjl
      rw [← HP.out] at hst
      obtain ⟨b, off, rfl, hb, hc⟩ := HA.out j hjl
      have d0 := hc 0 (by omega)
      have d1 := hc 1 (by omega)
      have hix : j = p → R = ((l[j].f == f) && (l[j].q == q)) := fun e => by subst e; exact HIA.out hjl
      obtain ⟨x, hx⟩ : ∃ x, x = l[j] := ⟨_, rfl⟩
      rw [← hx] at hst d0 d1 hix
      obtain ⟨xk, xf, xq, xt, xd⟩ := x
      simp only [NtV.ic, List.getElem?_cons_zero, List.getElem?_cons_succ, Nat.add_zero] at d0 d1
      unfold ltN NtV.nm at hst
      simp only at hst hix
      have t0 : (j : Int) < (n : Int) := by omega
      have t1 : decide ((j : Int) < (n : Int)) = true := decide_eq_true t0
      have t2 : decide (j < n) = true := decide_eq_true hjn
      by_cases hjp : j < p
      · have hlt := of_decide_eq_true (hst.1 hjp)
        have HJ := Lib.hid hjp
        clear hx hjl hjn hjp hple hst hc hix hb
        by_cases g1 : xf < f
        · have e1 : decide (xf < f) = true := decide_eq_true g1
          clear hlt g1
          go_wp2
          go_roundw
          case rel => exact ⟨j + 1, HJ.out, by go_num, by first | trivial | rfl⟩
          case measure => have := HJ.out; simp [intOf]; omega
        · have e1 : decide (xf < f) = false := decide_eq_false g1
          have g2 : xf = f := by omega
          have g3 : xq < q := by omega
          have e2 : (xf == f) = true := by rw [g2]; simp
          have e3 : decide (xq < q) = true := decide_eq_true g3
          clear hlt g1 g2 g3
          go_wp2
          go_roundw
          case rel => exact ⟨j + 1, HJ.out, by go_num, by first | trivial | rfl⟩
          case measure => have := HJ.out; simp [intOf]; omega
      · obtain hjp2 : j = p := by omega
        have hlt := of_decide_eq_false (hst.2 hjp2)
        have HI := Lib.hid (hix hjp2)
        subst hjp2
        have e1 : decide (xf < f) = false := decide_eq_false (by omega)
        by_cases g2 : xf = f
        · have e2 : (xf == f) = true := by rw [g2]; simp
          have e3 : decide (xq < q) = false := decide_eq_false (by omega)
          by_cases g4 : xq = q
          · have e4 : (xq == q) = true := by rw [g4]; simp
            have HE : Hid (R = true) := Lib.hid (by rw [HI.out, e2, e4]; rfl)
            clear hx hjl hjn hjp hple hst hc hix hb hlt g2 g4
            go_wp2
            go_quiet (fail)
            go_wp2
            go_ret2
            exact ⟨by rw [HE.out]; rfl, _, rfl⟩
          · have e4 : (xq == q) = false := by rw [beq_eq_false_iff_ne]; exact g4
            have HE : Hid (R = false) := Lib.hid (by rw [HI.out, e4]; simp)
            clear hx hjl hjn hjp hple hst hc hix hb hlt g2 g4
            go_wp2
            go_quiet (fail)
            go_wp2
            go_ret2
            exact ⟨by rw [HE.out]; rfl, _, rfl⟩
        · have e2 : (xf == f) = false := by rw [beq_eq_false_iff_ne]; exact g2
          have HE : Hid (R = false) := Lib.hid (by rw [HI.out, e2]; simp)
          clear hx hjl hjn hjp hple hst hc hix hb hlt g2
          go_wp2
          go_quiet (fail)
          go_wp2
          go_ret2
          exact ⟨by rw [HE.out]; rfl, _, rfl⟩
    · obtain hjp : j = p := by omega
      obtain hjn2 : j = n := by omega
      subst hjp
      have t1 : decide ((j : Int) < (n : Int)) = false := decide_eq_false (by omega)
      have t2 : decide (j < n) = false := decide_eq_false hjn
      have HE : Hid (R = false) := Lib.hid (HIN.out (by rw [← HN.out]; exact hjn2))
      clear hjn hjn2 hple hj
      go_wp2
      go_quiet (fail)
      go_wp2
      go_ret2
      exact ⟨by rw [HE.out]; rfl, _, rfl⟩
end
end Go.Proofs.YtkbiolhcpghmkaaGreat
namespace Go.Proofs.YtkbiolhcpghmkaaGreat
open Go.RowKit Go.Kq
set_option linter.unusedVariables false
/-- the address of x[n:] -/
def subI (A : Option Addr) (c n : Nat) : Option Addr := if c = n then A else A.map (·.add (n * 5))
set_option maxRecDepth 100000 in
theorem subI_run (A : Option Addr) (n c a : Nat) (h1 : a ≤ n) (w : World) : (Instr.slice 26 (.slice A n c) (some (.int .i64 (a : Int))) none none).run Tryz.prog w = .ok (.slice (subI A c a) (n - a) (c - a)) w := by
  rw [run_slice_l w 26 A n c Tryz.underlying26 .i64 (a : Int) (by omega) (by omega)]
  rfl
set_option maxRecDepth 100000 in
theorem preI_run (A : Option Addr) (n c m : Nat) (h2 : m ≤ c) (w : World) : (Instr.slice 26 (.slice A n c) none (some (.int .i64 (m : Int))) none).run Tryz.prog w = .ok (.slice A m c) w := by
  rw [run_slice_h w 26 A n c Tryz.underlying26 .i64 (m : Int) (by omega) (by omega)]
  have hs : (sizeOf (Tryz.prog.elem 26)).run Tryz.prog w = .ok 5 w := by kernel_rfl
  rw [hs]
  cases A <;> simp [sliced, Result.andThen, Addr.add_zero']
theorem subI_at {w : World} {A : Option Addr} {l : List NtV} {c : Nat} (h : EnAt NtV.ic w A l) (hc : l.length ≤ c) (n : Nat) : ItE.At w (subI A c n) (l.drop n) := by
  intro i hi
  have hl := List.length_drop (i := n) (l := l)
  obtain ⟨b, off, e, h1, h2⟩ := ItE.en.2 h (n + i) (by omega)
  subst e
  unfold subI
  rw [if_neg (by omega), Option.map_some]
  refine ⟨b, off + n * 5, by rw [Kq.Elt.add_flat], h1, fun j hj => ?_⟩
  rw [List.getElem_drop, ← h2 j hj]
  congr 2
  show off + n * 5 + i * 5 + j = off + (n + i) * 5 + j
  omega
theorem src_sub {w : World} {A : Option Addr} {l : List NtV} {c : Nat} (h : EnAt NtV.ic w A l) (hc : l.length ≤ c) (n r : Nat) (hr : r = l.length - n) : Src Tryz.prog 5 26 (.slice (subI A c n) r (c - n)) r (ItE.flat (l.drop n)) w := by
  have := (subI_at h hc n).srcA Tryz.underlying26 (c - n)
  rw [List.length_drop, ← hr] at this
  exact this
theorem src_pre {w : World} {A : Option Addr} {l : List NtV} (c : Nat) (h : EnAt NtV.ic w A l) (n : Nat) (hn : n ≤ l.length) : Src Tryz.prog 5 26 (.slice A n c) n (ItE.flat (l.take n)) w := by
  have := ((ItE.en.2 h).take n).srcA Tryz.underlying26 c
  rw [List.length_take, Nat.min_eq_left hn] at this
  exact this
/-- a list under way: its row is newer than wd, nothing older changed -/
structure RwI (wd w : World) (v : Value) (xs : List NtV) : Prop where
  row : w.ownsRow wd.heap.size 51 5 v xs.length (ItE.flat xs)
  kp : Kq.Keeps (fun k => wd.heap.size ≤ k) wd w
section
variable {wd w w' : World} {v v' : Value} {xs ys : List NtV}
theorem RwI.start (wd : World) : RwI wd (wd.alloc (.cells #[] 51)) (.slice (some ⟨wd.heap.size, 0, none⟩) 0 0) [] :=
  ⟨⟨rfl, Or.inr ⟨wd.heap.size, 0, #[], rfl, Nat.le_refl _, Kq.blk_new wd #[] 51 (0, 0), Nat.le_refl _, by decide, rfl, rfl⟩⟩, Kq.Keeps.alloc _ _ _⟩
theorem RwI.app (h : RwI wd w v xs) {m : Nat} (hown : w'.ownsRow wd.heap.size 51 5 v' (xs.length + m) (ItE.flat xs ++ ItE.flat ys)) (hm : ys.length = m) (hg : w.grownBy w' v.ownBlock) : RwI wd w' v' (xs ++ ys) :=
  ⟨by rw [List.length_append, ItE.flat_append, hm]; exact hown, h.kp.trans (Kq.Keeps.grown hg (fun k _ e => own_geF h.row e))⟩
theorem RwI.below (h : RwI wd w v xs) (hb : Below w.heap.size w w') : RwI wd w' v xs := ⟨own_belowF h.row hb, h.kp.trans (Kq.Keeps.of_below hb (fun k h1 h2 => absurd h2 (Nat.not_lt.2 h1)))⟩
theorem RwI.size (h : RwI wd w v xs) : wd.heap.size ≤ w.heap.size := h.kp.size
theorem RwI.shape (h : RwI wd w v xs) : ∃ A c, v = .slice A xs.length c := by
  obtain ⟨A, c, e, _⟩ := Kq.Elt.own_at h.row
  exact ⟨A, c, e⟩
/-- what is older stands as it stood -/
theorem RwI.rt {O : Nat → Prop} {B : Nat} {s : TbV} {An : Option Addr} {cn : Nat} (h : RwI wd w v xs) (hr : RT wd O B s An cn) (hO : ∀ k, O k → k < wd.heap.size) : RT w O B s An cn := hr.keeps h.kp (fun k hk => by have := hO k hk; omega)
/-- stored into the table, the list is its list -/
theorem RwI.done {O : Nat → Prop} {B : Nat} {s : TbV} {An : Option Addr} {cn : Nat} {A : Option Addr} {c : Nat} (h : RwI wd w (.slice A xs.length c) xs) (hr : RT wd O B s An cn) (hO : ∀ k, O k → k < wd.heap.size) {r : Value} : StepR wd O B r ⟨s.room, xs⟩ (.returned r) (w.setCell ⟨B, 0, none⟩ (.slice A xs.length c)) := by
  have hr2 := h.rt hr hO
  have hB := hO B hr.oB
  have hks : Kq.Keeps (· = B) w (w.setCell ⟨B, 0, none⟩ (.slice A xs.length c)) := Kq.Keeps.setCell _ _ _ rfl
  obtain ⟨A', c', e, hc, hat, hge, _⟩ := Kq.Elt.own_at h.row
  injection e with e1 e2 e3
  subst e1 e3
  refine ⟨rfl, ⟨A, c, Kq.blk_set hr2.blk 0 _, (ItE.en.1 hat).keeps hks (fun g o e hg => ?_), fun b off e => ⟨Or.inr ⟨hge b off e, ?_⟩, ?_, fun hb => ?_⟩, hc, Or.inl hr.oB⟩, ?_⟩
  · have h1 := hge g o e
    have h2 : g = B := hg
    omega
  · exact Nat.lt_of_lt_of_le (own_ltK h.row (by rw [e]; rfl)) hks.size
  · exact Nat.lt_of_lt_of_le (own_ltK h.row (by rw [e]; rfl)) hks.size
  · have h1 := hge b off e
    omega
  · refine ⟨hks.os.trans h.kp.os, hks.tape.trans h.kp.tape, hks.output.trans h.kp.output, Nat.le_trans h.kp.size hks.size, fun k hk hn => ?_⟩
    rw [hks.block k (Nat.lt_of_lt_of_le hk h.kp.size) (fun e => hn (by rw [show k = B from e]; exact hr.oB)), h.kp.block k hk (Nat.not_le.2 hk)]
end
end Go.Proofs.YtkbiolhcpghmkaaGreat
namespace Go.Proofs.YtkbiolhcpghmkaaGreat
open Go.RowKit Go.Kq
set_option linter.unusedVariables false
section
variable (w : World) (O : Nat → Prop) (B : Nat) (s : TbV)
def CrB (w : World) (B : Nat) (An : Option Addr) (n cn r : Nat) : Prop := w.cell? ⟨B, 0, none⟩ = some (.slice An n cn) ∧ w.cell? ⟨B, 1, none⟩ = some (.int .i64 (r : Int))
end
end Go.Proofs.YtkbiolhcpghmkaaGreat
namespace Go.Proofs.YtkbiolhcpghmkaaGreat
open Go.RowKit Go.Kq
set_option linter.unusedVariables false
theorem plc_all : ∀ (l : List NtV) (k : NmV), (∀ q ∈ l, ltN q.nm k = true) → tbR.plc l k = l.length
  | [], k, _ => rfl
  | p :: l, k, h => by
    rw [Ord.plc_cons, if_pos (show tbR.lt (tbR.key p) k = true from h p List.mem_cons_self), plc_all l k (fun q hq => h q (List.mem_cons_of_mem _ hq))]
    rfl
theorem ofL_app : ∀ (l acc : List NtV), tbR.Sort (acc ++ l) → ofL acc l = some (acc ++ l)
  | [], acc, _ => by rw [List.append_nil]; rfl
  | n :: l, acc, h => by
    have hall : ∀ q ∈ acc, ltN q.nm n.nm = true := fun q hq => (List.pairwise_append.1 h).2.2 q hq n List.mem_cons_self
    have hno : tbR.look acc n.nm = none := Ord.look_none acc n.nm (fun q hq => Ord.ne (R := tbR) (hall q hq))
    have hacc : tbR.Sort acc := (List.pairwise_append.1 h).1
    have hins : tbR.ins acc n = acc ++ [n] := by
      rw [Ord.ins_new acc n hacc hno, show tbR.plc acc (tbR.key n) = acc.length from plc_all acc n.nm hall, List.take_length, List.drop_length, List.append_nil]
    show (if (tbR.look acc n.nm).isSome = true then none else ofL (tbR.ins acc n) l) = _
    rw [hno, if_neg (by simp), hins, ofL_app l (acc ++ [n]) (by rw [List.append_assoc]; exact h), List.append_assoc]
    rfl
theorem ofV_same {s : TbV} (h : TbOk s) : ofV (s.room : Int) s.l = (0, some s.l) := by
  have hr : 1 ≤ (s.room : Int) ∧ (s.room : Int) ≤ 40 := by have := h.r1; have := h.r40; omega
  rw [ofV_l hr (fun n hn => (h.ok n hn).1), ofL_app s.l [] h.sort]
  show (if (s.room : Int) < (s.l.length : Int) then _ else _) = _
  rw [if_neg (by have := h.len; omega)]
  rfl
end Go.Proofs.YtkbiolhcpghmkaaGreat
