/- Merged: QfP, QfPs. The document's reader, of which is known what is left, if a condition holds: byteOf, number, textOf, raw. Condition: lengths. The document's Parse: what lies in memory in its midst. Condition: lengths. -/
import Derived.WalkSpells
import Derived.Outline
import Derived.Test.YtclloplkbajebaaDoorRefDoMQ
import Derived.Test.YtclloplkbajebaaDoorPfGQ
import Derived.Test.YtclloplkbajebaaDoorPfFQ
namespace Go.Proofs.YtclloplkbajebaaDoor
open Go.RowKit
set_option linter.unusedVariables false
def RqC (C : Prop) (w : World) (B : Nat) (l : List Nat) : Prop := ∃ e s, Rf w B e s ∧ (C → e = 0 ∧ nl s = l)
section
variable {C : Prop} {w w' : World} {B : Nat} {l l' : List Nat}
theorem RqC.cast (h : RqC C w B l) (hl : C → l = l') : RqC C w B l' := by
  obtain ⟨e, s, h1, h3⟩ := h
  exact ⟨e, s, h1, fun c => ⟨(h3 c).1, (h3 c).2.trans (hl c)⟩⟩
theorem RqC.keeps {S : Nat → Prop} (h : RqC C w B l) (hk : Kq.Keeps S w w') (hS : ¬ S B) : RqC C w' B l := by
  obtain ⟨e, s, h1, h3⟩ := h
  exact ⟨e, s, h1.later hk hS, h3⟩
theorem RqC.below (h : RqC C w B l) (hb : Below w.heap.size w w') : RqC C w' B l :=
  h.keeps (Kq.Keeps.of_below (S := fun _ => False) hb (fun k h1 h2 => absurd h1 (Nat.not_le.2 h2))) id
theorem RqC.lt (h : RqC C w B l) : B < w.heap.size := by
  obtain ⟨e, s, h1, _⟩ := h
  exact h1.lt
theorem RqC.start (s : ByteArray) (hs : s.size ≤ 100000) (l : List Nat) (hl : C → nl s = l) (w : World) : RqC C (w.alloc (.cells #[.string s, .int .i64 0, .int .i64 0] 83)) w.heap.size l :=
  ⟨0, s, ⟨s, 0, ⟨Kq.blk_new _ _ _ _, Nat.zero_le _, hs⟩, by
    apply nl_inj
    rw [nl_extract, List.drop_zero, Nat.sub_zero, List.take_of_length_le (by rw [nl_length]; exact Nat.le_refl _)]⟩, fun c => ⟨rfl, hl c⟩⟩
end
def QnPost (C : Prop) (w : World) (B : Nat) (lim n : Nat) (rest : List Nat) (x : Ending) (w' : World) : Prop := ∃ m : Nat, m < lim ∧ (C → m = n) ∧ x = .returned (.int .i64 (m : Int)) ∧ RqC C w' B rest ∧ Kq.Keeps (· = B) w w'
def QtPost (C : Prop) (w : World) (B : Nat) (t : ByteArray) (rest : List Nat) (x : Ending) (w' : World) : Prop := ∃ s : ByteArray, (C → s = t) ∧ x = .returned (.string s) ∧ RqC C w' B rest ∧ Kq.Keeps (· = B) w w'
def QrPost (C : Prop) (w : World) (B : Nat) (t : ByteArray) (rest : List Nat) (x : Ending) (w' : World) : Prop := ∃ (s : ByteArray) (m : Nat), (C → s = t) ∧ x = .returned (.tuple #[.int .u64 (m : Int), .string s]) ∧ RqC C w' B rest ∧ Kq.Keeps (· = B) w w'
section
variable (C : Prop) (B : Nat) (w : World)
set_option maxRecDepth 100000 in
set_option maxHeartbeats 800000 in
theorem rq_byte (b : Nat) (rest : List Nat) (h : RqC C w B ([b] ++ rest)) : Calls Tryd.prog 39 #[.pointer (some ⟨B, 0, none⟩)] w (QnPost C w B 256 b rest) := by
  obtain ⟨e, s, h1, h3⟩ := h
  have HD := Lib.hid (ref_do B e s ⟨0, 0, 0, ⟨#[]⟩⟩ w h1)
  have HY : Hid (doOne e s ⟨0, 0, 0, ⟨#[]⟩⟩ = (WireM.val (nl (WireM.raw e s (1 : Nat)).1), ⟨#[]⟩, (WireM.raw e s (1 : Nat)).2)) := Lib.hid rfl
  rw [HY.out] at HD
  have hlt : WireM.val (nl (WireM.raw e s (1 : Nat)).1) < 256 := by simpa using whole_lt e s 1
  have HQ : Hid (C → WireM.val (nl (WireM.raw e s (1 : Nat)).1) = b ∧ (WireM.raw e s (1 : Nat)).2.1 = 0 ∧ nl (WireM.raw e s (1 : Nat)).2.2 = rest) := Lib.hid (fun c => by
    obtain ⟨rfl, hs⟩ := h3 c
    obtain ⟨g1, g2, g3⟩ := raw_list hs
    have e1 : (([b].length : Nat) : Int) = ((1 : Nat) : Int) := rfl
    rw [e1] at g1 g2 g3
    exact ⟨by rw [g1, val_one], g2, g3⟩)
  obtain ⟨v, hv⟩ : ∃ v, v = WireM.val (nl (WireM.raw e s (1 : Nat)).1) := ⟨_, rfl⟩
  rw [← hv] at HD HQ hlt
  clear hv HY h1 h3
  have hw : IntKind.i64.wrap (v : Int) = (v : Int) := IntWalk.i64_in _ (by omega)
  go_enter Tryd.func39, Tryd.ntmps39
  go_wp2_with fail
  refine HD.out.mono ?_
  rintro x w2 ⟨rfl, R, K⟩
  have HP : Hid (QnPost C w B 256 b rest (.returned (.int .i64 (v : Int))) w2) := Lib.hid ⟨v, hlt, fun c => (HQ.out c).1, rfl, ⟨_, _, R, fun c => (HQ.out c).2⟩, K⟩
  clear R K HD HQ
  go_wp2
  go_ret
  exact HP.out
set_option maxRecDepth 100000 in
set_option maxHeartbeats 800000 in
theorem rq_number (n : Nat) (rest : List Nat) (h : RqC C w B (num8 n ++ rest)) (hn : C → n < 1000000) : Calls Tryd.prog 40 #[.pointer (some ⟨B, 0, none⟩)] w (QnPost C w B 1000000 n rest) := by
  obtain ⟨e, s, h1, h3⟩ := h
  have HD := Lib.hid (ref_do B e s ⟨1, 0, 0, ⟨#[]⟩⟩ w h1)
  have HY : Hid (doOne e s ⟨1, 0, 0, ⟨#[]⟩⟩ = (WireM.val (nl (WireM.raw e s (8 : Nat)).1), ⟨#[]⟩, (WireM.raw e s (8 : Nat)).2)) := Lib.hid rfl
  rw [HY.out] at HD
  have hlt : WireM.val (nl (WireM.raw e s (8 : Nat)).1) < 18446744073709551616 := by simpa using whole_lt e s 8
  have HQ : Hid (C → WireM.val (nl (WireM.raw e s (8 : Nat)).1) % 1000000 = n ∧ (WireM.raw e s (8 : Nat)).2.1 = 0 ∧ nl (WireM.raw e s (8 : Nat)).2.2 = rest) := Lib.hid (fun c => by
    obtain ⟨rfl, hs⟩ := h3 c
    obtain ⟨g1, g2, g3⟩ := raw_list hs
    have e1 : (((num8 n).length : Nat) : Int) = ((8 : Nat) : Int) := rfl
    rw [e1] at g1 g2 g3
    have hn' := hn c
    exact ⟨by rw [g1, val_num8 n (by unfold M64; omega)]; omega, g2, g3⟩)
  obtain ⟨v, hv⟩ : ∃ v, v = WireM.val (nl (WireM.raw e s (8 : Nat)).1) := ⟨_, rfl⟩
  rw [← hv] at HD HQ hlt
  clear hv HY h1 h3
  obtain ⟨m, hm⟩ : ∃ m, m = v % 1000000 := ⟨_, rfl⟩
  rw [← hm] at HQ
  have hm0 : (v : Int) % 1000000 = (m : Int) := by omega
  have hml : m < 1000000 := by omega
  have hw : IntKind.i64.wrap (m : Int) = (m : Int) := IntWalk.i64_in _ (by omega)
  have hw2 : IntKind.i64.wrap ((v : Int) % 1000000) = (m : Int) := by rw [hm0]; exact hw
  have HP : Hid (∀ w2, Rf w2 B (WireM.raw e s (8 : Nat)).2.1 (WireM.raw e s (8 : Nat)).2.2 → Kq.Keeps (· = B) w w2 → ∀ z : Int, z = (m : Int) → QnPost C w B 1000000 n rest (.returned (.int .i64 z)) w2) := Lib.hid (fun w2 R K z hz => ⟨m, hml, fun c => (HQ.out c).1, by rw [hz], ⟨_, _, R, fun c => (HQ.out c).2⟩, K⟩)
  have HM := Lib.hid hm0
  clear hm hlt
  go_enter Tryd.func40, Tryd.ntmps40
  go_wp2_with fail
  refine HD.out.mono ?_
  rintro x w2 ⟨rfl, R, K⟩
  have HP2 := Lib.hid (HP.out w2 R K)
  clear R K HD HQ HP
  go_wp2
  go_ret
  exact HP2.out _ (by first | rfl | exact HM.out)
set_option maxRecDepth 100000 in
set_option maxHeartbeats 800000 in
theorem rq_textOf (t : ByteArray) (rest : List Nat) (h : RqC C w B (tx2 t ++ rest)) : Calls Tryd.prog 41 #[.pointer (some ⟨B, 0, none⟩)] w (QtPost C w B t rest) := by
  obtain ⟨e, s, h1, h3⟩ := h
  have HD := Lib.hid (ref_do B e s ⟨2, 0, 0, ⟨#[]⟩⟩ w h1)
  obtain ⟨y, hy⟩ : ∃ y, y = doOne e s ⟨2, 0, 0, ⟨#[]⟩⟩ := ⟨_, rfl⟩
  have HQ : Hid (C → y.2.1 = t ∧ y.2.2.1 = 0 ∧ nl y.2.2.2 = rest) := Lib.hid (fun c => by
    obtain ⟨rfl, hs⟩ := h3 c
    have hs2 : nl s = hi2 t.size ++ (nl t ++ rest) := by rw [hs]; unfold tx2 hi2; rw [List.append_assoc]
    obtain ⟨g1, g2, g3⟩ := raw_list hs2
    have hl2 : (hi2 t.size).length = 2 := rfl
    rw [hl2] at g1 g2 g3
    have hy2 : y = (0, WireM.raw (WireM.raw 0 s (2 : Nat)).2.1 (WireM.raw 0 s (2 : Nat)).2.2 ((WireM.val (nl (WireM.raw 0 s (2 : Nat)).1) : Nat) : Int)) := hy
    rw [hy2, g1, g2, val_hi2]
    obtain ⟨k1, k2, k3⟩ := raw_list g3
    rw [nl_length] at k1 k2 k3
    exact ⟨nl_inj k1, k2, k3⟩)
  rw [← hy] at HD
  clear hy h1 h3
  obtain ⟨y1, y2, y3, y4⟩ := y
  simp only at HQ
  go_enter Tryd.func41, Tryd.ntmps41
  go_wp2_with fail
  refine HD.out.mono ?_
  rintro x w2 ⟨rfl, R, K⟩
  have HP : Hid (QtPost C w B t rest (.returned (.string y2)) w2) := Lib.hid ⟨y2, fun c => (HQ.out c).1, rfl, ⟨_, _, R, fun c => (HQ.out c).2⟩, K⟩
  clear R K HD HQ
  go_wp2
  go_ret
  exact HP.out
theorem rq_raw (t : ByteArray) (rest : List Nat) (h : RqC C w B (nl t ++ rest)) (hn : C → t.size = 32) : Calls Tryd.prog 42 #[.pointer (some ⟨B, 0, none⟩), .agg #[.int .i64 3, .int .i64 32, .int .u64 0, .string ⟨#[]⟩]] w (QrPost C w B t rest) := by
  obtain ⟨e, s, h1, h3⟩ := h
  refine (ref_do B e s ⟨3, 32, 0, ⟨#[]⟩⟩ w h1).mono ?_
  rintro x w' ⟨rfl, R, K⟩
  refine ⟨_, 0, fun c => ?_, rfl, ⟨_, _, R, fun c => ?_⟩, K⟩
  · obtain ⟨rfl, hs⟩ := h3 c
    obtain ⟨g1, g2, g3⟩ := raw_list hs
    rw [nl_length, hn c] at g1
    exact nl_inj g1
  · obtain ⟨rfl, hs⟩ := h3 c
    obtain ⟨g1, g2, g3⟩ := raw_list hs
    rw [nl_length, hn c] at g2 g3
    exact ⟨g2, g3⟩
end
end Go.Proofs.YtclloplkbajebaaDoor
namespace Go.Proofs.YtclloplkbajebaaDoor
open Go.RowKit
set_option linter.unusedVariables false
/-- in the midst of the document's Parse: leaves that were read -/
structure Rs (C : Prop) (w : World) (B R X : Nat) (l : List Nat) (ab : Bool) (a : Option Addr) (q cp : Nat) (ls : List LfW) (w' : World) : Prop where
  rd : RqC C w' B l
  rb : PBk w' R false (.slice none 0 0)
  pb : PBk w' X ab (.slice a q cp)
  ne : w.heap.size ≤ B
  ne2 : w.heap.size ≤ R
  ne3 : R ≠ X ∧ B ≠ X ∧ B ≠ R ∧ B < X ∧ R < X
  bel : Below w.heap.size w w'
  own : w'.ownsRow (X + 1) 30 5 (.slice a q cp) ls.length (LfE.flat ls)
  sz : X + 1 ≤ w'.heap.size
  pa : ∀ x ∈ ls, TxN w' (fun k => k < X + 1 ∨ some k = (Value.slice a q cp).ownBlock) x.a x.l.p ∧ x.l.p.length ≤ x.cap ∧ x.l.p.length ≤ 300
section
variable {C : Prop} {w w1 w' : World} {B R X : Nat} {l l' : List Nat} {ab : Bool} {a : Option Addr} {q cp : Nat} {ls : List LfW}
theorem Rs.cast (h : Rs C w B R X l ab a q cp ls w1) (hl : C → l = l') : Rs C w B R X l' ab a q cp ls w1 := ⟨h.rd.cast hl, h.rb, h.pb, h.ne, h.ne2, h.ne3, h.bel, h.own, h.sz, h.pa⟩
theorem Rs.read (h : Rs C w B R X l ab a q cp ls w1) (hr : RqC C w' B l') (hk : Kq.Keeps (· = B) w1 w') : Rs C w B R X l' ab a q cp ls w' :=
  ⟨hr, h.rb.later hk (fun e => h.ne3.2.2.1 e.symm), h.pb.later hk (fun e => h.ne3.2.1 e.symm), h.ne, h.ne2, h.ne3, below_far h.bel hk (Nat.le_refl _) (fun k _ e => by have := h.ne; omega), own_keeps h.own hk (fun k e => by have := h.ne3; omega), Nat.le_trans h.sz hk.size, fun x hx => ⟨(h.pa x hx).1.keeps hk (fun k _ e => Or.inl (by have := h.ne3; omega)), (h.pa x hx).2⟩⟩
theorem Rs.below (h : Rs C w B R X l ab a q cp ls w1) (hb : Below w1.heap.size w1 w') : Rs C w B R X l ab a q cp ls w' :=
  ⟨h.rd.below hb, h.rb.below hb, h.pb.below hb, h.ne, h.ne2, h.ne3, h.bel.trans (hb.mono h.bel.size), own_belowB h.own hb, Nat.le_trans h.sz hb.size, fun x hx => ⟨(h.pa x hx).1.below hb, (h.pa x hx).2⟩⟩
theorem Rs.start {w2 : World} (hr : RqC C w2 B l) (hb : PBk w2 R false (.slice none 0 0)) (h1 : w.heap.size ≤ B) (h2 : w.heap.size ≤ R) (h3 : B ≠ R) (hw : Below w.heap.size w w2) : Rs C w B R w2.heap.size l ab none 0 0 [] (w2.alloc (.cells #[.bool ab, .slice none 0 0] 24)) := by
  have b1 := Kq.below_alloc w2 (.cells #[.bool ab, .slice none 0 0] 24)
  have e1 := hr.lt
  have e2 := hb.lt
  exact ⟨hr.below b1, hb.below b1, ⟨Kq.blk_new _ _ _ _⟩, h1, h2, by omega, hw.trans (b1.mono hw.size), ⟨rfl, Or.inl ⟨rfl, rfl⟩⟩, by simp, fun x hx => by cases hx⟩
/-- one leaf more: it was read into z, and appended -/
theorem Rs.snoc {z : LfW} {a' : Option Addr} {q' cp' : Nat} {z1 z3 : World} (h : Rs C w B R X l ab a q cp ls z1) (hz : TxN z1 (fun k => k < X + 1 ∨ some k = (Value.slice a q cp).ownBlock) z.a z.l.p ∧ z.l.p.length ≤ z.cap ∧ z.l.p.length ≤ 300)
    (hk : Kq.Keeps (fun g => some g = (Value.slice a q cp).ownBlock) z1 z3) (hown : z3.ownsRow (X + 1) 30 5 (.slice a' q' cp') (ls ++ [z]).length (LfE.flat (ls ++ [z])))
    (hfr : ∀ k, (Value.slice a' q' cp').ownBlock = some k → some k = (Value.slice a q cp).ownBlock ∨ z1.heap.size ≤ k) :
    Rs C w B R X l ab a' q' cp' (ls ++ [z]) (z3.setCell ⟨X, 1, none⟩ (.slice a' q' cp')) := by
  have hge : ∀ g, some g = (Value.slice a q cp).ownBlock → X + 1 ≤ g := fun g hg => own_geB h.own hg.symm
  have hs : Kq.Keeps (· = X) z3 (z3.setCell ⟨X, 1, none⟩ (.slice a' q' cp')) := Kq.Keeps.setCell _ _ _ rfl
  have h3 := h.ne3
  refine ⟨(h.rd.keeps hk (fun e => by have := hge B e; omega)).keeps hs h3.2.1, (h.rb.later hk (fun e => by have := hge R e; omega)).later hs h3.1, (h.pb.later hk (fun e => by have := hge X e; omega)).s1 _, h.ne, h.ne2, h.ne3, ?_, own_keeps hown hs (fun k e => by omega), ?_, fun x hx => ?_⟩
  · have hWX : w.heap.size ≤ X := by have := h.ne; omega
    exact below_far (below_far h.bel hk (Nat.le_refl _) (fun k _ e => by have := hge k e; omega)) hs (Nat.le_refl _) (fun k _ e => by omega)
  · exact Nat.le_trans h.sz (Nat.le_trans hk.size hs.size)
  · have hx0 : TxN z1 (fun k => k < X + 1 ∨ some k = (Value.slice a q cp).ownBlock) x.a x.l.p ∧ x.l.p.length ≤ x.cap ∧ x.l.p.length ≤ 300 := by
      rcases List.mem_append.1 hx with hx | hx
      · exact h.pa x hx
      · rw [List.mem_singleton] at hx; rw [hx]; exact hz
    refine ⟨?_, hx0.2⟩
    have h4 : TxN z3 (fun k => k < X + 1 ∨ some k = (Value.slice a q cp).ownBlock) x.a x.l.p := hx0.1.keeps hk (fun k _ e => Or.inr e)
    have h5 : TxN z3 (fun k => k < X + 1 ∨ some k = (Value.slice a' q' cp').ownBlock) x.a x.l.p := fun j hj => by
      obtain ⟨g, o, e, e1, e2, e3⟩ := h4 j hj
      obtain ⟨g', o', e', _, e2', _⟩ := hx0.1 j hj
      rw [e] at e'
      simp only [Option.some.injEq, Addr.mk.injEq] at e'
      obtain ⟨rfl, -, -⟩ := e'
      refine ⟨g, o, e, fun hc => ?_, e2, e3⟩
      rcases hc with hc | hc
      · exact e1 (Or.inl hc)
      · rcases hfr g hc.symm with hc | hc
        · exact e1 (Or.inr hc)
        · omega
    exact h5.keeps hs (fun k _ e => Or.inl (by omega))
end
theorem Rs.lfs {C : Prop} {w w1 : World} {B R X : Nat} {l : List Nat} {ab : Bool} {a : Option Addr} {q cp : Nat} {ls : List LfW} (h : Rs C w B R X l ab a q cp ls w1) : q = ls.length ∧ ls.length ≤ cp ∧ LfsN w1 (fun k => k < X + 1) a ls := by
  obtain ⟨A, cap, e, hc, hat, hb, _⟩ := Kq.Elt.own_at (E := LfE) (l := ls) h.own
  injection e with e1 e2 e3
  subst e1 e2 e3
  refine ⟨rfl, hc, LfsN.of hat (fun b off e hb' => ?_) (fun x hx => ⟨(h.pa x hx).1.mono (fun k _ hk => Or.inl hk), (h.pa x hx).2.1⟩)⟩
  have := hb b off e
  omega
/-- while a leaf is read, into a block that was just laid: from w5 on, that has Y blocks -/
structure Gq (C : Prop) (w5 : World) (B : Nat) (l : List Nat) (i c : Int) (k v : ByteArray) (P : Value) (w' : World) : Prop where
  rd : RqC C w' B l
  lb : LB w' w5.heap.size i c k v P
  ne : B < w5.heap.size
  keeps : Kq.Keeps (· = B) w5 w'
section
variable {C : Prop} {w0 w w' : World} {B : Nat} {l l' : List Nat} {i c : Int} {k v : ByteArray} {P : Value}
theorem Gq.start (h : RqC C w0 B l) (i c : Int) : Gq C w0 B l i c ⟨#[]⟩ ⟨#[]⟩ (.slice none 0 0) (w0.alloc (.cells #[.int .i64 i, .int .i64 c, .string ⟨#[]⟩, .string ⟨#[]⟩, .slice none 0 0] 30)) :=
  have hb := Kq.below_alloc w0 (.cells #[.int .i64 i, .int .i64 c, .string ⟨#[]⟩, .string ⟨#[]⟩, .slice none 0 0] 30)
  ⟨h.below hb, ⟨Kq.blk_new _ _ _ _⟩, h.lt, Kq.Keeps.of_below hb (fun k h1 h2 => absurd h2 (Nat.not_lt.2 h1))⟩
theorem Gq.read (h : Gq C w0 B l i c k v P w) (hr : RqC C w' B l') (hk : Kq.Keeps (· = B) w w') : Gq C w0 B l' i c k v P w' :=
  ⟨hr, h.lb.later hk (fun e => by have := h.ne; omega), h.ne, h.keeps.trans hk⟩
theorem Gq.cast (h : Gq C w0 B l i c k v P w) (hl : C → l = l') : Gq C w0 B l' i c k v P w := ⟨h.rd.cast hl, h.lb, h.ne, h.keeps⟩
theorem Gq.far (h : Gq C w0 B l i c k v P w) (hk : Kq.Keeps (fun g => w0.heap.size + 1 ≤ g) w w') : Gq C w0 B l i c k v P w' :=
  ⟨h.rd.keeps hk (by have := h.ne; omega), h.lb.later hk (by omega), h.ne, keeps_far h.keeps hk (fun g hg => by omega)⟩
theorem Gq.below (h : Gq C w0 B l i c k v P w) (hb : Below w.heap.size w w') : Gq C w0 B l i c k v P w' :=
  have hk : Kq.Keeps (fun _ => False) w w' := Kq.Keeps.of_below hb (fun k h1 h2 => absurd h1 (Nat.not_le.2 h2))
  ⟨h.rd.below hb, h.lb.later hk id, h.ne, keeps_far h.keeps hk (fun g hg => hg.elim)⟩
theorem Gq.set (h : Gq C w0 B l i c k v P w) (j : Nat) (x : Value) {i' c' : Int} {k' v' : ByteArray} {P' : Value} (hp : LB (w.setCell ⟨w0.heap.size, j, none⟩ x) w0.heap.size i' c' k' v' P') : Gq C w0 B l i' c' k' v' P' (w.setCell ⟨w0.heap.size, j, none⟩ x) :=
  have hk : Kq.Keeps (· = w0.heap.size) w (w.setCell ⟨w0.heap.size, j, none⟩ x) := Kq.Keeps.setCell _ _ _ rfl
  ⟨h.rd.keeps hk (by have := h.ne; omega), hp, h.ne, keeps_far h.keeps hk (fun g hg => by omega)⟩
end
end Go.Proofs.YtclloplkbajebaaDoor
