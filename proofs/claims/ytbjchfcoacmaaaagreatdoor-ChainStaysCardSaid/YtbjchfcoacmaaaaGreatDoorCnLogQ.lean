/- Contract of chain's Log. Condition: small chains. -/
import Derived.WalkSpells
import Derived.Outline
import Derived.ProofKit
import Derived.Deep.LoopGhost
import Derived.Deep.QuietTactic
import Derived.Deep.RegionHeld
import Derived.BigQuiet
import Derived.Test.YtbjchfcoacmaaaaGreatDoorCnNoQ
namespace Go.Proofs.YtbjchfcoacmaaaaGreatDoor
open Go.RowKit
set_option linter.unusedVariables false
theorem ChP.keeps {w w' : World} {O T : Nat → Prop} {B : Nat} {c : ChV} (h : ChP w O B c) (hk : Kq.Keeps T w w') (hT : ∀ k, O k → ¬ T k) : ChP w' O B c := by
  obtain ⟨S, C, Os, Oc, On, vb, vn, Vs, h⟩ := h
  exact ⟨S, C, Os, Oc, On, vb, vn, Vs, h.keeps hk hT⟩
theorem ChP.oltL {w : World} {O : Nat → Prop} {B : Nat} {c : ChV} (h : ChP w O B c) : ∀ k, O k → k < w.heap.size := by
  obtain ⟨S, C, Os, Oc, On, vb, vn, Vs, h⟩ := h
  exact h.lt
/-- what stands while a log is read: the chain, the place, the result's place -/
structure LgS (Y : Nat) (w0 : World) (O : Nat → Prop) (B : Nat) (c : ChV) (H : Nat) (i : Int) (w : World) : Prop where
  ch : ChP w O B c
  pl : w.heap[Y]? = some (.cells #[.int .u64 (H : Int), .int .i64 i] 30 (0, 0))
  rs : w.heap[Y + 1]? = some (.cells #[.int .u64 0, .int .i64 0] 30 (0, 0))
  bel : Below Y w0 w
  olt : ∀ k, O k → k < Y
  yle : Y ≤ w0.heap.size
section
variable {Y : Nat} {w0 w w' : World} {O : Nat → Prop} {B : Nat} {c : ChV} {H : Nat} {i : Int}
theorem LgS.below (h : LgS Y w0 O B c H i w) (hb : Below w.heap.size w w') : LgS Y w0 O B c H i w' :=
  ⟨h.ch.below hb, Kq.below_blk hb h.pl (Kq.blk_lt h.pl), Kq.below_blk hb h.rs (Kq.blk_lt h.rs), h.bel.trans (hb.mono (by have := Kq.blk_lt h.pl; omega)), h.olt, h.yle⟩
theorem LgS.keeps {S : Nat → Prop} (h : LgS Y w0 O B c H i w) (hk : Kq.Keeps S w w') (h3 : ∀ k, S k → Y + 2 ≤ k) : LgS Y w0 O B c H i w' :=
  ⟨h.ch.keeps hk (fun k h1 h2 => by have := h.olt k h1; have := h3 k h2; omega), hk.blk h.pl (fun e => by have := h3 _ e; omega), hk.blk h.rs (fun e => by have := h3 _ e; omega), below_past h.bel hk h.yle (fun k _ e => by have := h3 k e; omega), h.olt, h.yle⟩
theorem LgS.idx (h : LgS Y w0 O B c H i w) (x : Int) : LgS Y w0 O B c H x (w.setCell ⟨Y, 1, none⟩ (.int .i64 x)) := by
  have k1 : Kq.Keeps (· = Y) w (w.setCell ⟨Y, 1, none⟩ (.int .i64 x)) := Kq.Keeps.setCell _ _ _ rfl
  exact ⟨h.ch.keeps k1 (fun k hk e => by have := h.olt k hk; have e : k = Y := e; omega), Kq.blk_set h.pl 1 _, k1.blk h.rs (by omega), below_past h.bel k1 h.yle (fun k _ e => by have e : k = Y := e; omega), h.olt, h.yle⟩
/-- the next block -/
theorem LgS.next (h : LgS Y w0 O B c H i w) (H' : Nat) : LgS Y w0 O B c H' 0 ((w.setCell ⟨Y, 0, none⟩ (.int .u64 (H' : Int))).setCell ⟨Y, 1, none⟩ (.int .i64 0)) := by
  have k1 : Kq.Keeps (· = Y) w (w.setCell ⟨Y, 0, none⟩ (.int .u64 (H' : Int))) := Kq.Keeps.setCell _ _ _ rfl
  have k2 : Kq.Keeps (· = Y) (w.setCell ⟨Y, 0, none⟩ (.int .u64 (H' : Int))) ((w.setCell ⟨Y, 0, none⟩ (.int .u64 (H' : Int))).setCell ⟨Y, 1, none⟩ (.int .i64 0)) := Kq.Keeps.setCell _ _ _ rfl
  have k3 := k1.trans k2
  exact ⟨h.ch.keeps k3 (fun k hk e => by have := h.olt k hk; have e : k = Y := e; omega), Kq.blk_set (Kq.blk_set h.pl 0 _) 1 _, k3.blk h.rs (by omega), below_past h.bel k3 h.yle (fun k _ e => by have e : k = Y := e; omega), h.olt, h.yle⟩
theorem LgS.start (h : ChP w O B c) (x : Nat) (y : Int) : LgS w.heap.size w O B c x y ((w.alloc (.cells #[.int .u64 (x : Int), .int .i64 y] 30)).alloc (.cells #[.int .u64 0, .int .i64 0] 30)) := by
  have b1 := Kq.below_alloc w (.cells #[.int .u64 (x : Int), .int .i64 y] 30)
  have n1 := Kq.blk_new w #[.int .u64 (x : Int), .int .i64 y] 30 (0, 0)
  have hs : (w.alloc (.cells #[.int .u64 (x : Int), .int .i64 y] 30)).heap.size = w.heap.size + 1 := by simp
  generalize w.alloc (.cells #[.int .u64 (x : Int), .int .i64 y] 30) = z at *
  have b2 := Kq.below_alloc z (.cells #[.int .u64 0, .int .i64 0] 30)
  have n2 := Kq.blk_new z #[.int .u64 0, .int .i64 0] 30 (0, 0)
  rw [hs] at n2
  exact ⟨(h.below b1).below b2, Kq.below_blk b2 n1 (Kq.blk_lt n1), n2, b1.trans (b2.mono (by omega)), h.oltL, Nat.le_refl _⟩
end
def lgA (A : Option Addr) (cap i : Nat) : Option Addr := if cap = i then A else A.map (·.add (i * 5))
set_option maxRecDepth 100000 in
theorem lg_run (A : Option Addr) (n c i m : Nat) (h : i + m ≤ c) (w : World) : (Instr.slice 28 (.slice A n c) (some (.int .i64 (i : Int))) (some (.int .i64 ((i + m : Nat) : Int))) none).run Tryz.prog w = .ok (.slice (lgA A c i) m (c - i)) w := by
  rw [run_slice_lh w 28 A n c Tryz.underlying28 .i64 .i64 (i : Int) ((i + m : Nat) : Int) (by omega) (by omega) (by omega)]
  have hs : (sizeOf (Tryz.prog.elem 28)).run Tryz.prog w = .ok 5 w := by kernel_rfl
  rw [hs]
  simp only [Result.andThen, sliced, Int.toNat_natCast, lgA]
  congr 2
  omega
theorem lg_at {w : World} {A : Option Addr} {cap i : Nat} {bl : List NtV} (m : Nat) (h : EnAt NtV.nc w A bl) (hi : i ≤ bl.length) (hc : bl.length ≤ cap) : ntE.At w (lgA A cap i) ((bl.drop i).take m) := by
  have h' : ntE.At w A bl := h
  refine Kq.Elt.At.take ?_ m
  by_cases he : cap = i
  · have : bl.drop i = [] := List.drop_of_length_le (by omega)
    rw [this]; exact Kq.Elt.At.nil
  · unfold lgA
    rw [if_neg he]
    cases A with
    | none =>
      have : bl = [] := by
        cases bl with
        | nil => rfl
        | cons a b => obtain ⟨b', off, e, _⟩ := h 0 (by simp); cases e
      subst this
      exact fun j hj => by simp at hj
    | some a =>
      by_cases h0 : bl = []
      · subst h0; exact fun j hj => by simp at hj
      · obtain ⟨b', off, e, _⟩ := h 0 (List.length_pos_iff.2 h0)
        injection e with e
        subst e
        show ntE.At w (some ((⟨b', off, none⟩ : Addr).add (i * 5))) _
        rw [Kq.Elt.add_flat]
        exact Kq.Elt.At.drop h' i
/-- where the reading stands -/
structure LgI (Y : Nat) (w0 : World) (O : Nat → Prop) (B : Nat) (c : ChV) (H h0 k : Nat) (T : List NtV × Nat × Nat) (j x i : Nat) (A : Option Addr) (cap : Nat) (bl : List NtV) (bs : List (List NtV)) (l : List NtV) (v : Value) (wr : World) : Prop where
  dr : c.blks.drop (h0 + j) = bl :: bs
  cp : bl.length ≤ cap
  at_ : EnAt NtV.nc wr A bl
  ob : ∀ b off, A = some ⟨b, off, none⟩ → O b
  il : i ≤ bl.length
  xe : x = H + j
  st : LgS Y w0 O B c x (i : Int) wr
  ow : wr.ownsRow (Y + 2) 58 5 v l.length (ntE.flat l)
  lk : l.length ≤ k
  t1 : T.1 = l ++ (logG (bl :: bs) i (k - l.length)).1
  t2 : T.2.1 = j + (logG (bl :: bs) i (k - l.length)).2.1
  t3 : T.2.2 = (logG (bl :: bs) i (k - l.length)).2.2
theorem take_min (b : List NtV) (i k : Nat) : (b.drop i).take (min (b.length - i) k) = (b.drop i).take k := by
  by_cases h : b.length - i ≤ k
  · rw [Nat.min_eq_left h, List.take_of_length_le (by rw [List.length_drop]; omega), List.take_of_length_le (by rw [List.length_drop]; omega)]
  · rw [Nat.min_eq_right (by omega)]
theorem drop_cons {α : Type} {l : List α} {n : Nat} {a : α} {b : List α} (h : l.drop n = a :: b) : ∃ hn : n < l.length, l[n] = a ∧ l.drop (n + 1) = b := by
  have hn : n < l.length := by
    by_cases hn : n < l.length
    · exact hn
    · rw [List.drop_of_length_le (by omega)] at h; cases h
  rw [List.drop_eq_getElem_cons hn] at h
  injection h with h1 h2
  exact ⟨hn, h1, h2⟩
theorem own_base {w : World} {b b' s n : Nat} {e : TypeId} {v : Value} {xs : List Value} (h : w.ownsRow b e s v n xs) (hb : b' ≤ b) : w.ownsRow b' e s v n xs := by
  refine ⟨h.1, h.2.imp id ?_⟩
  rintro ⟨g, cap, cur, rfl, h3, h4⟩
  exact ⟨g, cap, cur, rfl, Nat.le_trans hb h3, h4⟩
/-- what a log's call tells -/
def LogPost (w : World) (bs : List (List NtV)) (H i k : Nat) (x : Ending) (w' : World) : Prop := ∃ v, x = .returned (.tuple #[v, .agg #[.int .u64 ((H + (logG bs i k).2.1 : Nat) : Int), .int .i64 ((logG bs i k).2.2 : Int)]]) ∧ w'.ownsRow w.heap.size 58 5 v (logG bs i k).1.length (ntE.flat (logG bs i k).1) ∧ Below w.heap.size w w'
section
variable {w : World} {O : Nat → Prop} {B : Nat} {c : ChV}
set_option maxRecDepth 100000 in
set_option maxHeartbeats 2000000 in
theorem cn_log (H ix k : Nat) (h : ChP w O B c) (hc : ChOk c) (hH : c.first ≤ H ∧ H ≤ c.st.height) (hi : ∀ hj : H - c.first < c.blks.length, ix ≤ c.blks[H - c.first].length) (hi2 : ix ≤ 100000) (hk : k ≤ 9223372036854775807) (hbl : c.blks.length ≤ 4096) (htot : c.blks.flatten.length ≤ 100000) : Calls Tryz.prog 9 #[.pointer (some ⟨B, 0, none⟩), .agg #[.int .u64 (H : Int), .int .i64 (ix : Int)], .int .i64 (k : Int)] w (LogPost w (c.blks.drop (H - c.first)) H ix k) := by
  obtain ⟨i0, hi0, hz0, hz1, hz2⟩ := info_partsB infoNt
  obtain ⟨hg, hhg⟩ : ∃ hg, hg = c.st.height := ⟨_, rfl⟩
  have htop := hc.st.top
  have hone := hc.st.one
  have hfe := hc.first
  have hln := hc.len
  have hgd : hg = c.st.first + (c.st.blks.length - 1) := hhg
  have hhn : H - c.first < c.blks.length := by omega
  have hib := hi hhn
  obtain ⟨Y, hY⟩ : ∃ Y, Y = w.heap.size := ⟨_, rfl⟩
  obtain ⟨wb, hwb⟩ : ∃ z, z = (w.alloc (.cells #[.int .u64 (H : Int), .int .i64 (ix : Int)] 30)).alloc (.cells #[.int .u64 0, .int .i64 0] 30) := ⟨_, rfl⟩
  have HB0 : Hid (LgS Y w O B c H (ix : Int) wb) := Lib.hid (by rw [hwb, hY]; exact LgS.start h H ix)
  have HHT := Lib.hid (fun (z : World) (hz : ChP z O B c) => (cn_height hz))
  rw [← hhg] at HHT hH
  have HNO := Lib.hid (fun (z : World) (hz : ChP z O B c) (j : Nat) (hj : H - c.first + j < c.blks.length) => cn_noted (w := z) (H - c.first + j) hz hj (by omega) (by omega))
  obtain ⟨T, hT⟩ : ∃ T, T = logG (c.blks.drop (H - c.first)) ix k := ⟨_, rfl⟩
  have HT := Lib.hid hT
  have HTL : Hid (T.1.length ≤ 100000) := Lib.hid (by
    rw [hT, (logG_at c.blks (H - c.first) ix k hhn hib).1, List.length_take, List.length_drop]; omega)
  have HBL := Lib.hid (And.intro hH (And.intro hbl (And.intro htot (And.intro hhn (And.intro hi (And.intro hgd (And.intro hfe (And.intro hln (And.intro htop hone)))))))))
  have HP : Hid (∀ v z, z.ownsRow (Y + 2) 58 5 v T.1.length (ntE.flat T.1) → Below Y w z → ∀ x, x = .returned (.tuple #[v, .agg #[.int .u64 ((H + T.2.1 : Nat) : Int), .int .i64 (T.2.2 : Int)]]) → LogPost w (c.blks.drop (H - c.first)) H ix k x z) := Lib.hid (fun v z h1 h2 x hx => by
    unfold LogPost
    rw [← hT, ← hY]
    exact ⟨v, hx, own_base h1 (by omega), h2⟩)
  clear h hc hi hhg hgd hfe hln htop hone hhn hib hT hbl htot
  have d1 : decide ((H : Int) < (c.first : Int)) = false := decide_eq_false (by omega)
  have d1' : decide (H < c.first) = false := decide_eq_false (by omega)
  have d2 : decide ((hg : Int) < (H : Int)) = false := decide_eq_false (by omega)
  have d2' : decide (hg < H) = false := decide_eq_false (by omega)
  have HIN := Lib.hid hH
  clear hH
  go_enter Tryz.func9, Tryz.ntmps9
  go_wp2
  rw [← hwb, ← hY]
  have c4 : wb.cell? ⟨B, 4, none⟩ = some (.int .u64 (c.first : Int)) := by
    obtain ⟨S, C, Os, Oc, On, vb, vn, Vs, g⟩ := HB0.out.ch
    exact g.c4
  have p0 := Kq.blk_cell HB0.out.pl 0
  have HQ := Lib.hid (fun r => Calls.quiet_of_same (HHT.out (wb.drewN r) (HB0.out.ch.below (below_drewN (Below.refl _ _) r))))
  clear hwb hY
  go_quiet ((first | (go_at_call 11; exact HQ.out _)))
  generalize hwq : wb.drewN nq = wq
  have HB1 : Hid (LgS Y w O B c H (ix : Int) wq) := Lib.hid (by rw [← hwq]; exact HB0.out.below (below_drewN (Below.refl _ _) nq))
  clear hwq HB0 c4 p0 HQ d1 d1' d2 d2' nq
  go_wp2
  have p0 := Kq.blk_cell HB1.out.pl 0
  refine wp_region_held_drew (S := fun w' => w'.cell? ⟨Y, 0, none⟩ = some (.int .u64 (H : Int))) (by kernel_rfl) p0 (fun hS0 => ?_)
  have HB2 : Hid (LgS Y w O B c H (ix : Int) wq.drew) := Lib.hid (HB1.out.below (Below.refl _ _).drew)
  generalize wq.drew = z0 at *
  clear p0 HB1
  refine wpAnyH_take (i := 0) (v := ?_) rfl (by kernel_rfl) (by kernel_rfl) (by kernel_rfl) (fun _ _ _ h => h) (Or.inl ⟨by kernel_rfl, ?_⟩) (by assumption) ?_
  rotate_left
  · intro w hSw; (try dsimp only at hSw); go_simp; (try with_reducible rfl)
  refine wpAnyH_take (i := 1) (v := ?_) rfl (by kernel_rfl) (by kernel_rfl) (by kernel_rfl) (fun _ _ _ h => h) (Or.inl ⟨by kernel_rfl, ?_⟩) (by assumption) ?_
  rotate_left
  · intro w hSw; (try dsimp only at hSw); go_simp; (try with_reducible rfl)
  refine wpAnyH_take (i := 2) (v := ?_) rfl (by kernel_rfl) (by kernel_rfl) (by kernel_rfl) (fun _ _ _ h => h) (Or.inl ⟨by kernel_rfl, ?_⟩) (by assumption) ?_
  rotate_left
  · intro w hSw; (try dsimp only at hSw); go_simp; (try with_reducible rfl)
  refine wpAnyH_take (i := 3) (v := ?_) rfl (by kernel_rfl) (by kernel_rfl) (by kernel_rfl) (fun _ _ _ h => h) (Or.inl ⟨by kernel_rfl, ?_⟩) (by assumption) ?_
  rotate_left
  · intro w hSw; (try dsimp only at hSw); go_simp; (try with_reducible rfl)
  refine wpAnyH_take (i := 4) (v := ?_) rfl (by kernel_rfl) (by kernel_rfl) (by kernel_rfl) (fun _ _ _ h => h) (Or.inl ⟨by kernel_rfl, ?_⟩) (by assumption) ?_
  rotate_left
  · intro w hSw; (try dsimp only at hSw); go_simp; (try with_reducible rfl)
  refine wpAnyH_ready (rs := [5]) (by kernel_rfl) (by simp) ?_
  refine AllReadyH.cons rfl (fun K hK => ?_) AllReadyH.nil
  go_simp
  have HN0 := HNO.out z0 HB2.out.ch 0 (by have := HBL.out.2.2.2.1; omega)
  rw [show (c.first + (H - c.first + 0) : Nat) = H by have := HIN.out; omega] at HN0
  refine HN0.mono ?_
  rintro x z1 ⟨A, cap, rfl, q1, q2, q3, b1⟩
  have HB3 : Hid (LgS Y w O B c H (ix : Int) z1) := Lib.hid (HB2.out.below b1)
  obtain ⟨bl, hbl⟩ : ∃ bl, bl = c.blks[H - c.first + 0]'(by have := HBL.out.2.2.2.1; omega) := ⟨_, rfl⟩
  rw [← hbl] at q1 q2 ⊢
  have HIB : Hid (ix ≤ bl.length) := Lib.hid (by rw [hbl]; exact HBL.out.2.2.2.2.1 HBL.out.2.2.2.1)
  have HDR : Hid (c.blks.drop (H - c.first + 0) = bl :: c.blks.drop (H - c.first + 0 + 1)) := Lib.hid (by rw [hbl]; exact List.drop_eq_getElem_cons _)
  have HA := Lib.hid (And.intro q1 (And.intro q2 q3))
  clear q1 q2 q3 b1 hbl HN0 HB2 hS0
  refine hK.out _ _ (Kq.blk_cell HB3.out.pl 0) (fun hS0 => ?_)
  clear hK K
  refine wpAnyH_take (i := 6) (v := ?_) rfl (by kernel_rfl) (by kernel_rfl) (by kernel_rfl) (fun _ _ _ h => h) (Or.inl ⟨by kernel_rfl, ?_⟩) (by assumption) ?_
  rotate_left
  · intro w hSw; (try dsimp only at hSw); go_simp; (try with_reducible rfl)
  refine wpAnyH_done (by kernel_rfl) ?_ _
  clear hS0
  have c1 := Kq.blk_cell HB3.out.pl 1
  have mn0 : min (ix : Int) (bl.length : Int) = (ix : Int) := by have := HIB.out; omega
  have e1 : ¬ ((bl.length : Int) < (ix : Int)) := by have := HIB.out; omega
  have e1' : ¬ (bl.length < ix) := by have := HIB.out; omega
  have mx0 : max (ix : Int) 0 = (ix : Int) := by omega
  have H0 : Hid (LgI Y w O B c H (H - c.first) k T 0 H ix A cap bl (c.blks.drop (H - c.first + 0 + 1)) [] (.slice none 0 0) (z1.setCell ⟨Y, 1, none⟩ (.int .i64 (ix : Int)))) := Lib.hid (by
    have hd : c.blks.drop (H - c.first) = bl :: c.blks.drop (H - c.first + 0 + 1) := HDR.out
    refine ⟨HDR.out, HA.out.1, HA.out.2.1.keeps (Kq.Keeps.setCell (S := (· = Y)) z1 ⟨Y, 1, none⟩ (.int .i64 (ix : Int)) rfl) (fun g o e h => ?_), HA.out.2.2, HIB.out, rfl, HB3.out.idx _, ⟨rfl, Or.inl ⟨rfl, rfl⟩⟩, Nat.zero_le _, ?_, ?_, ?_⟩
    · have h : g = Y := h
      have := HB3.out.olt g (HA.out.2.2 g o e); omega
    · rw [HT.out, hd]; rfl
    · rw [HT.out, hd]; show _ = 0 + _; rw [Nat.zero_add]; rfl
    · rw [HT.out, hd]; rfl)
  have f1 := Kq.blk_free HB3.out.pl 1
  clear HB3 HA HIB HDR HT HIN
  go_wp2
  go_loopg [8, 9] (c.blks.length - (H - c.first)) (fun gk v b wr => ∃ (j x ix : Nat) (A : Option Addr) (cap : Nat) (bl : List NtV) (bs : List (List NtV)) (l : List NtV), b = .slice A bl.length cap ∧ j + gk = c.blks.length - (H - c.first) ∧ LgI Y w O B c H (H - c.first) k T j x ix A cap bl bs l v wr)
  case atStart => exact ⟨0, H, ix, A, cap, bl, _, [], rfl, by omega, H0.out⟩
  case round =>
    clear H0 c1 f1 mn0 mx0 e1 e1' hi2
    obtain ⟨j, x, i, A, cap, bl, bs, l, rfl, hgk, hI⟩ := hrel
    generalize wr = wo at *
    generalize gk = go at *
    have HR := Lib.hid hI
    have HGK := Lib.hid hgk
    obtain ⟨vA, vc, rfl, hvc, -⟩ := Kq.Elt.own_at (E := ntE) hI.ow
    clear hI hgk hvc
    have HSZ : Hid (bl.length ≤ 100000 ∧ l.length ≤ 100000 ∧ T.1.length ≤ 100000) := Lib.hid (by
      have h1 := flat_mem (List.mem_of_mem_drop (by rw [HR.out.dr]; exact List.mem_cons_self : bl ∈ c.blks.drop (H - c.first + j)))
      have h2 := HBL.out.2.2.1
      have h3 := HTL.out
      have h4 := congrArg List.length HR.out.t1
      rw [List.length_append] at h4
      omega)
    obtain ⟨a, ha⟩ : ∃ a, a = bl.length - i := ⟨_, rfl⟩
    obtain ⟨bb, hbb⟩ : ∃ bb, bb = k - l.length := ⟨_, rfl⟩
    obtain ⟨m, hm⟩ : ∃ m, m = min a bb := ⟨_, rfl⟩
    have m1 : IntKind.i64.wrap ((bl.length : Int) - (i : Int)) = (a : Int) := by rw [IntWalk.i64_in _ (by have := HSZ.out; have := HR.out.il; omega)]; have := HR.out.il; omega
    have m2 : IntKind.i64.wrap ((k : Int) - (l.length : Int)) = (bb : Int) := by rw [IntWalk.i64_in _ (by have := HSZ.out; have := HR.out.lk; omega)]; have := HR.out.lk; omega
    have mx : max (bb : Int) 0 = (bb : Int) := by omega
    have mn : min (a : Int) (bb : Int) = (m : Int) := by omega
    have HMM : Hid (m ≤ bl.length - i ∧ m ≤ k - l.length ∧ m = min (bl.length - i) (k - l.length) ∧ i + m ≤ bl.length ∧ bl.length ≤ cap) := Lib.hid (by have := HR.out.il; have := HR.out.cp; omega)
    clear ha hbb hm
    obtain ⟨s5, hs5⟩ : ∃ s5, s5 = (bl.drop i).take m := ⟨_, rfl⟩
    obtain ⟨la, hla⟩ : ∃ la, la = lgA A cap i := ⟨_, rfl⟩
    obtain ⟨e, he⟩ : ∃ e, e = i + m := ⟨_, rfl⟩
    have HLM : Hid (s5.length = m) := Lib.hid (by rw [hs5, List.length_take, List.length_drop]; have := HMM.out; omega)
    have HSRC : Hid (Src Tryz.prog 5 28 (.slice la m (cap - i)) m (ntE.flat s5) wo) := Lib.hid (by
      have h5 : ntE.At wo (lgA A cap i) s5 := by rw [hs5]; exact lg_at m HR.out.at_ HR.out.il HR.out.cp
      have := Kq.Elt.At.srcA Tryz.underlying28 (cap - i) h5
      rwa [HLM.out, ← hla] at this)
    have HSL := Lib.hid (fun wx => lg_run A bl.length cap i m (by have := HMM.out; omega) wx)
    rw [← he, ← hla] at HSL
    have HS5 : Hid (s5 = (bl.drop i).take (k - l.length)) := Lib.hid (by rw [hs5, HMM.out.2.2.1, take_min])
    have HEE := Lib.hid he
    have m3 : IntKind.i64.wrap ((i : Int) + (m : Int)) = (e : Int) := by rw [IntWalk.i64_in _ (by have := HMM.out; have := HSZ.out; omega)]; omega
    clear hs5 hla he
    have sl := HSL.out
    have c1 := Kq.blk_cell HR.out.st.pl 1
    go_wp2_with (at_builtin; refine Kq.wpList_append_any _ rfl (.tmp 51) (.tmp 59) 28 28 rfl (Y + 2) 58 i0 (.agg #[.int .i64 0, .int .i64 0, .int .u64 0, .int .u64 0, .string ⟨#[]⟩]) 5 48 Tryz.underlying28 hi0 hz0 hz1 hz2 rfl (by decide) (.slice vA l.length vc) l.length (ntE.flat l) rfl HR.out.ow (.slice la m (cap - i)) m (ntE.flat s5) rfl HSRC.out ?h1 ?h2 ?h3 ?_)
    case h1 => have := HSZ.out; have := HMM.out; unfold maxLen; omega
    case h2 => have := HSZ.out; have := HMM.out; omega
    case h3 => have := Kq.blk_lt HR.out.st.rs; omega
    intro v' z3 hown3 hgrow hfresh
    have k3 : Kq.Keeps (fun b => (Value.slice vA l.length vc).ownBlock = some b) wo z3 := Kq.Keeps.grown hgrow (fun b _ hb => hb)
    have HL3 : Hid (LgS Y w O B c x (i : Int) z3 ∧ z3.ownsRow (Y + 2) 58 5 v' (l ++ s5).length (ntE.flat (l ++ s5)) ∧ EnAt NtV.nc z3 A bl) := Lib.hid (by
      refine ⟨HR.out.st.keeps k3 (fun b hb => own_geF HR.out.ow hb), ?_, HR.out.at_.keeps k3 (fun g o e h => ?_)⟩
      · rw [List.length_append, HLM.out, Kq.Elt.flat_append]; exact hown3
      · have h1 := own_geF HR.out.ow h
        have := HR.out.st.olt g (HR.out.ob g o e); omega)
    obtain ⟨vA', vc', hv', -⟩ := Kq.Elt.own_at (E := ntE) HL3.out.2.1
    rw [List.length_append, HLM.out] at hv'
    subst hv'
    clear hown3 hgrow hfresh k3 sl HSL HSRC c1 m1 m2 mx mn
    have c1 := Kq.blk_cell HL3.out.1.pl 1
    have f1 := Kq.blk_free HL3.out.1.pl 1
    go_wp2
    obtain ⟨z4, hz4⟩ : ∃ z, z = z3.setCell ⟨Y, 1, none⟩ (.int .i64 (e : Int)) := ⟨_, rfl⟩
    have HL4 : Hid (LgS Y w O B c x (e : Int) z4 ∧ z4.ownsRow (Y + 2) 58 5 (.slice vA' (l.length + m) vc') (l ++ s5).length (ntE.flat (l ++ s5))) := Lib.hid (by
      rw [hz4]
      refine ⟨HL3.out.1.idx (e : Int), own_keepsS HL3.out.2.1 (Kq.Keeps.setCell (S := (· = Y)) z3 ⟨Y, 1, none⟩ (.int .i64 (e : Int)) rfl) (fun k hk h => ?_)⟩
      have hk : k = Y := hk
      have := own_geF HL3.out.2.1 h; omega)
    rw [← hz4]
    clear hz4 HL3 c1 f1 m3
    have c0 := Kq.blk_cell HL4.out.1.pl 0
    have c1 := Kq.blk_cell HL4.out.1.pl 1
    have HQ := Lib.hid (fun r => Calls.quiet_of_same (HHT.out (z4.drewN r) (HL4.out.1.ch.below (below_drewN (Below.refl _ _) r))))
    by_cases hend : e < bl.length ∨ bs = []
    · have HEND : Hid (T.1 = l ++ s5 ∧ T.2.1 = j ∧ T.2.2 = e) := Lib.hid (by
        have hq : i + min (bl.length - i) (k - l.length) < bl.length ∨ bs = [] := by rw [← HMM.out.2.2.1, ← HEE.out]; exact hend
        rw [HR.out.t1, HR.out.t2, HR.out.t3, logG_stop hq, HS5.out]
        exact ⟨rfl, rfl, by show i + min (bl.length - i) (k - l.length) = e; rw [← HMM.out.2.2.1, HEE.out]⟩)
      have HLAST : Hid (¬ e < bl.length → x = hg) := Lib.hid (fun hne => by
        have hb : bs = [] := hend.resolve_left hne
        obtain ⟨h1, -, h2⟩ := drop_cons HR.out.dr
        rw [hb] at h2
        have h3 : c.blks.length ≤ H - c.first + j + 1 := by
          have := congrArg List.length h2
          rw [List.length_drop] at this
          simp only [List.length_nil] at this; omega
        have := HR.out.xe
        have := HBL.out
        omega)
      clear hend
      have HFIN : Hid (∀ z5, Kq.Keeps (· = Y + 1) z4 z5 → LogPost w (c.blks.drop (H - c.first)) H ix k (.returned (.tuple #[.slice vA' (l.length + m) vc', .agg #[.int .u64 (x : Int), .int .i64 (e : Int)]])) z5) := Lib.hid (fun z5 k5 => by
        refine HP.out (.slice vA' (l.length + m) vc') z5 ?_ ?_ _ ?_
        · rw [HEND.out.1]
          exact own_keepsS HL4.out.2 k5 (fun k hk h => by
            have hk : k = Y + 1 := hk
            have := own_geF HL4.out.2 h; omega)
        · exact below_past HL4.out.1.bel k5 HL4.out.1.yle (fun k _ hk => by have hk : k = Y + 1 := hk; omega)
        · rw [HEND.out.2.1, HEND.out.2.2, ← HR.out.xe])
      by_cases hlt : e < bl.length
      · have d1 : decide ((e : Int) < (bl.length : Int)) = true := decide_eq_true (by omega)
        have d1' : decide (e < bl.length) = true := decide_eq_true hlt
        clear hlt HLAST
        go_quiet ((first | (go_at_call 11; exact HQ.out _)))
        generalize hwq : z4.drewN nq = wq
        have HL5 : Hid (LgS Y w O B c x (e : Int) wq ∧ Kq.Keeps (· = Y + 1) z4 wq) := Lib.hid (by rw [← hwq]; exact ⟨HL4.out.1.below (below_drewN (Below.refl _ _) nq), Kq.Keeps.of_below (below_drewN (Below.refl _ _) nq) (fun k h1 h2 => absurd h1 (Nat.not_le.2 h2))⟩)
        clear hwq c0 c1 nq
        have c0 := Kq.blk_cell HL5.out.1.pl 0
        have c1 := Kq.blk_cell HL5.out.1.pl 1
        have r0 := Kq.blk_cell HL5.out.1.rs 0
        have r1 := Kq.blk_cell HL5.out.1.rs 1
        have g0 := Kq.blk_free HL5.out.1.rs 0
        have g1 := Kq.blk_free HL5.out.1.rs 1
        go_wp2
        go_region
        obtain ⟨zf, hzf⟩ : ∃ z, z = ((wq.setCell ⟨Y + 1, 0, none⟩ (.int .u64 (x : Int))).setCell ⟨Y + 1, 1, none⟩ (.int .i64 (e : Int))).drew := ⟨_, rfl⟩
        have HF : Hid (zf.cell? ⟨Y + 1, 0, none⟩ = some (.int .u64 (x : Int)) ∧ zf.cell? ⟨Y + 1, 1, none⟩ = some (.int .i64 (e : Int)) ∧ Kq.Keeps (· = Y + 1) z4 zf) := Lib.hid (by
          have hb : zf.heap[Y + 1]? = some (.cells #[.int .u64 (x : Int), .int .i64 (e : Int)] 30 (0, 0)) := by rw [hzf]; exact Kq.blk_set (Kq.blk_set HL5.out.1.rs 0 _) 1 _
          refine ⟨Kq.blk_cell hb 0, Kq.blk_cell hb 1, ?_⟩
          rw [hzf]
          have k1 : Kq.Keeps (· = Y + 1) wq (wq.setCell ⟨Y + 1, 0, none⟩ (.int .u64 (x : Int))) := Kq.Keeps.setCell _ _ _ rfl
          have k2 : Kq.Keeps (· = Y + 1) (wq.setCell ⟨Y + 1, 0, none⟩ (.int .u64 (x : Int))) ((wq.setCell ⟨Y + 1, 0, none⟩ (.int .u64 (x : Int))).setCell ⟨Y + 1, 1, none⟩ (.int .i64 (e : Int))) := Kq.Keeps.setCell _ _ _ rfl
          exact ((HL5.out.2.trans k1).trans k2).drew)
        rw [← hzf]
        clear hzf c0 c1 r0 r1 g0 g1
        have z0' := HF.out.1
        have z1' := HF.out.2.1
        go_wp2
        refine bodyPost_ret (v := .tuple #[.slice vA' (l.length + m) vc', .agg #[.int .u64 (x : Int), .int .i64 (e : Int)]]) (by simp [results, Tryz.results9, go_sem, z0', z1']) rfl ?_
        exact HFIN.out _ HF.out.2.2
      · obtain rfl : x = hg := HLAST.out hlt
        have d1 : decide ((e : Int) < (bl.length : Int)) = false := decide_eq_false (by omega)
        have d1' : decide (e < bl.length) = false := decide_eq_false hlt
        clear hlt HLAST
        go_quiet ((first | (go_at_call 11; exact HQ.out _)))
        generalize hwq : z4.drewN nq = wq
        have HL5 : Hid (LgS Y w O B c x (e : Int) wq ∧ Kq.Keeps (· = Y + 1) z4 wq) := Lib.hid (by rw [← hwq]; exact ⟨HL4.out.1.below (below_drewN (Below.refl _ _) nq), Kq.Keeps.of_below (below_drewN (Below.refl _ _) nq) (fun k h1 h2 => absurd h1 (Nat.not_le.2 h2))⟩)
        clear hwq c0 c1 nq
        have c0 := Kq.blk_cell HL5.out.1.pl 0
        have c1 := Kq.blk_cell HL5.out.1.pl 1
        have r0 := Kq.blk_cell HL5.out.1.rs 0
        have r1 := Kq.blk_cell HL5.out.1.rs 1
        have g0 := Kq.blk_free HL5.out.1.rs 0
        have g1 := Kq.blk_free HL5.out.1.rs 1
        go_wp2
        go_region
        obtain ⟨zf, hzf⟩ : ∃ z, z = ((wq.setCell ⟨Y + 1, 0, none⟩ (.int .u64 (x : Int))).setCell ⟨Y + 1, 1, none⟩ (.int .i64 (e : Int))).drew := ⟨_, rfl⟩
        have HF : Hid (zf.cell? ⟨Y + 1, 0, none⟩ = some (.int .u64 (x : Int)) ∧ zf.cell? ⟨Y + 1, 1, none⟩ = some (.int .i64 (e : Int)) ∧ Kq.Keeps (· = Y + 1) z4 zf) := Lib.hid (by
          have hb : zf.heap[Y + 1]? = some (.cells #[.int .u64 (x : Int), .int .i64 (e : Int)] 30 (0, 0)) := by rw [hzf]; exact Kq.blk_set (Kq.blk_set HL5.out.1.rs 0 _) 1 _
          refine ⟨Kq.blk_cell hb 0, Kq.blk_cell hb 1, ?_⟩
          rw [hzf]
          have k1 : Kq.Keeps (· = Y + 1) wq (wq.setCell ⟨Y + 1, 0, none⟩ (.int .u64 (x : Int))) := Kq.Keeps.setCell _ _ _ rfl
          have k2 : Kq.Keeps (· = Y + 1) (wq.setCell ⟨Y + 1, 0, none⟩ (.int .u64 (x : Int))) ((wq.setCell ⟨Y + 1, 0, none⟩ (.int .u64 (x : Int))).setCell ⟨Y + 1, 1, none⟩ (.int .i64 (e : Int))) := Kq.Keeps.setCell _ _ _ rfl
          exact ((HL5.out.2.trans k1).trans k2).drew)
        rw [← hzf]
        clear hzf c0 c1 r0 r1 g0 g1
        have z0' := HF.out.1
        have z1' := HF.out.2.1
        go_wp2
        refine bodyPost_ret (v := .tuple #[.slice vA' (l.length + m) vc', .agg #[.int .u64 (x : Int), .int .i64 (e : Int)]]) (by simp [results, Tryz.results9, go_sem, z0', z1']) rfl ?_
        exact HFIN.out _ HF.out.2.2
    · have hne : ¬ e < bl.length := fun h => hend (Or.inl h)
      have hbs : bs ≠ [] := fun h => hend (Or.inr h)
      obtain ⟨h1, -, h2⟩ := drop_cons HR.out.dr
      obtain ⟨bl2, bs2, hb2⟩ : ∃ bl2 bs2, bs = bl2 :: bs2 := by
        cases bs with
        | nil => exact absurd rfl hbs
        | cons a b => exact ⟨a, b, rfl⟩
      subst hb2
      obtain ⟨h3, h4, -⟩ := drop_cons h2
      have hxg : x ≠ hg := by have := HR.out.xe; have := HBL.out; omega
      have HON : Hid (e = bl.length ∧ T.1 = (l ++ s5) ++ (logG (bl2 :: bs2) 0 (k - (l ++ s5).length)).1 ∧ T.2.1 = j + 1 + (logG (bl2 :: bs2) 0 (k - (l ++ s5).length)).2.1 ∧ T.2.2 = (logG (bl2 :: bs2) 0 (k - (l ++ s5).length)).2.2 ∧ (l ++ s5).length ≤ k ∧ c.blks.drop (H - c.first + (j + 1)) = bl2 :: bs2 ∧ H - c.first + (j + 1) < c.blks.length ∧ (∀ hj : H - c.first + (j + 1) < c.blks.length, c.blks[H - c.first + (j + 1)] = bl2)) := Lib.hid (by
        have hq : ¬ (i + min (bl.length - i) (k - l.length) < bl.length ∨ (bl2 :: bs2) = []) := by rw [← HMM.out.2.2.1, ← HEE.out]; exact hend
        have hkk : k - (l ++ s5).length = k - l.length - min (bl.length - i) (k - l.length) := by rw [List.length_append, HLM.out, ← HMM.out.2.2.1]; omega
        have hlk := HR.out.lk
        have hmm := HMM.out
        have hee := HEE.out
        refine ⟨by omega, ?_, ?_, ?_, by rw [List.length_append, HLM.out]; omega, h2, h3, fun _ => h4⟩
        · rw [HR.out.t1, logG_on hq, HS5.out]; rw [← HS5.out, hkk, List.append_assoc]
        · rw [HR.out.t2, logG_on hq, hkk]; show j + (_ + 1) = j + 1 + _; omega
        · rw [HR.out.t3, logG_on hq, hkk])
      obtain ⟨x2, hx2⟩ : ∃ x2, x2 = x + 1 := ⟨_, rfl⟩
      have m4 : IntKind.u64.wrap ((x : Int) + 1) = (x2 : Int) := by rw [IntWalk.u64_in _ (by have := HR.out.xe; have := HBL.out; omega)]; omega
      have HX2 : Hid (x2 = H + (j + 1)) := Lib.hid (by rw [hx2, HR.out.xe]; omega)
      have d1 : decide ((e : Int) < (bl.length : Int)) = false := decide_eq_false (by omega)
      have d1' : decide (e < bl.length) = false := decide_eq_false hne
      have d2 : ¬ (x : Int) = (hg : Int) := by omega
      have d2' : ¬ x = hg := hxg
      have d3 : ((x : Int) == (hg : Int)) = false := by rw [beq_eq_false_iff_ne]; exact d2
      clear hend hne hbs h1 h2 h3 h4 hx2 hxg
      go_quiet ((first | (go_at_call 11; exact HQ.out _)))
      generalize hwq : z4.drewN nq = wq
      have HL5 : Hid (LgS Y w O B c x (e : Int) wq ∧ wq.ownsRow (Y + 2) 58 5 (.slice vA' (l.length + m) vc') (l ++ s5).length (ntE.flat (l ++ s5))) := Lib.hid (by rw [← hwq]; exact ⟨HL4.out.1.below (below_drewN (Below.refl _ _) nq), own_keepsS HL4.out.2 (Kq.Keeps.of_below (S := fun _ => False) (below_drewN (Below.refl _ _) nq) (fun k h1 h2 => absurd h1 (Nat.not_le.2 h2))) (fun _ h => h.elim)⟩)
      clear hwq c0 c1 nq d1 d1' d2 d2' d3 HQ HL4
      have c0 := Kq.blk_cell HL5.out.1.pl 0
      have c1 := Kq.blk_cell HL5.out.1.pl 1
      have f0 := Kq.blk_free HL5.out.1.pl 0
      have f1 := Kq.blk_free HL5.out.1.pl 1
      go_wp2
      obtain ⟨z6, hz6⟩ : ∃ z, z = (wq.setCell ⟨Y, 0, none⟩ (.int .u64 (x2 : Int))).setCell ⟨Y, 1, none⟩ (.int .i64 0) := ⟨_, rfl⟩
      have HL6 : Hid (LgS Y w O B c x2 ((0 : Nat) : Int) z6 ∧ z6.ownsRow (Y + 2) 58 5 (.slice vA' (l.length + m) vc') (l ++ s5).length (ntE.flat (l ++ s5))) := Lib.hid (by
        rw [hz6]
        have k1 : Kq.Keeps (· = Y) wq (wq.setCell ⟨Y, 0, none⟩ (.int .u64 (x2 : Int))) := Kq.Keeps.setCell _ _ _ rfl
        have k2 : Kq.Keeps (· = Y) (wq.setCell ⟨Y, 0, none⟩ (.int .u64 (x2 : Int))) ((wq.setCell ⟨Y, 0, none⟩ (.int .u64 (x2 : Int))).setCell ⟨Y, 1, none⟩ (.int .i64 0)) := Kq.Keeps.setCell _ _ _ rfl
        refine ⟨HL5.out.1.next x2, own_keepsS HL5.out.2 (k1.trans k2) (fun k hk h => ?_)⟩
        have hk : k = Y := hk
        have := own_geF HL5.out.2 h; omega)
      rw [← hz6]
      clear hz6 HL5 c0 c1 f0 f1 m4
      have p0 := Kq.blk_cell HL6.out.1.pl 0
      refine wp_region_held_drew (S := fun w' => w'.cell? ⟨Y, 0, none⟩ = some (.int .u64 (x2 : Int))) (by kernel_rfl) p0 (fun hS0 => ?_)
      have HL7 : Hid (LgS Y w O B c x2 ((0 : Nat) : Int) z6.drew ∧ z6.drew.ownsRow (Y + 2) 58 5 (.slice vA' (l.length + m) vc') (l ++ s5).length (ntE.flat (l ++ s5))) := Lib.hid ⟨HL6.out.1.below (Below.refl _ _).drew, HL6.out.2⟩
      generalize z6.drew = z7 at *
      clear p0 HL6
      refine wpAnyH_take (i := 0) (v := ?_) rfl (by kernel_rfl) (by kernel_rfl) (by kernel_rfl) (fun _ _ _ h => h) (Or.inl ⟨by kernel_rfl, ?_⟩) (by assumption) ?_
      rotate_left
      · intro w hSw; (try dsimp only at hSw); go_simp; (try with_reducible rfl)
      refine wpAnyH_take (i := 1) (v := ?_) rfl (by kernel_rfl) (by kernel_rfl) (by kernel_rfl) (fun _ _ _ h => h) (Or.inl ⟨by kernel_rfl, ?_⟩) (by assumption) ?_
      rotate_left
      · intro w hSw; (try dsimp only at hSw); go_simp; (try with_reducible rfl)
      refine wpAnyH_take (i := 2) (v := ?_) rfl (by kernel_rfl) (by kernel_rfl) (by kernel_rfl) (fun _ _ _ h => h) (Or.inl ⟨by kernel_rfl, ?_⟩) (by assumption) ?_
      rotate_left
      · intro w hSw; (try dsimp only at hSw); go_simp; (try with_reducible rfl)
      refine wpAnyH_take (i := 3) (v := ?_) rfl (by kernel_rfl) (by kernel_rfl) (by kernel_rfl) (fun _ _ _ h => h) (Or.inl ⟨by kernel_rfl, ?_⟩) (by assumption) ?_
      rotate_left
      · intro w hSw; (try dsimp only at hSw); go_simp; (try with_reducible rfl)
      refine wpAnyH_take (i := 4) (v := ?_) rfl (by kernel_rfl) (by kernel_rfl) (by kernel_rfl) (fun _ _ _ h => h) (Or.inl ⟨by kernel_rfl, ?_⟩) (by assumption) ?_
      rotate_left
      · intro w hSw; (try dsimp only at hSw); go_simp; (try with_reducible rfl)
      refine wpAnyH_ready (rs := [5]) (by kernel_rfl) (by simp) ?_
      refine AllReadyH.cons rfl (fun K hK => ?_) AllReadyH.nil
      go_simp
      have HN0 := HNO.out z7 HL7.out.1.ch (j + 1) HON.out.2.2.2.2.2.2.1
      rw [show (c.first + (H - c.first + (j + 1)) : Nat) = x2 by have := HX2.out; have := HBL.out; omega] at HN0
      refine HN0.mono ?_
      rintro y z8 ⟨A9, cap9, rfl, q1, q2, q3, b1⟩
      rw [HON.out.2.2.2.2.2.2.2 HON.out.2.2.2.2.2.2.1] at q1 q2 ⊢
      have HL8 : Hid (LgI Y w O B c H (H - c.first) k T (j + 1) x2 0 A9 cap9 bl2 bs2 (l ++ s5) (.slice vA' (l.length + m) vc') z8) := Lib.hid ⟨HON.out.2.2.2.2.2.1, q1, q2, q3, Nat.zero_le _, HX2.out, HL7.out.1.below b1, own_keepsS HL7.out.2 (Kq.Keeps.of_below (S := fun _ => False) b1 (fun k h1 h2 => absurd h1 (Nat.not_le.2 h2))) (fun _ h => h.elim), HON.out.2.2.2.2.1, HON.out.2.1, HON.out.2.2.1, HON.out.2.2.2.1⟩
      clear q1 q2 q3 b1 HN0 HL7 hS0
      refine hK.out _ _ (Kq.blk_cell HL8.out.st.pl 0) (fun hS0 => ?_)
      clear hK K
      refine wpAnyH_take (i := 6) (v := ?_) rfl (by kernel_rfl) (by kernel_rfl) (by kernel_rfl) (fun _ _ _ h => h) (Or.inl ⟨by kernel_rfl, ?_⟩) (by assumption) ?_
      rotate_left
      · intro w hSw; (try dsimp only at hSw); go_simp; (try with_reducible rfl)
      refine wpAnyH_done (by kernel_rfl) ?_ _
      clear hS0
      go_wp2
      have HG9 : Hid (j + 1 + (c.blks.length - (H - c.first) - (j + 1)) = c.blks.length - (H - c.first) ∧ c.blks.length - (H - c.first) - (j + 1) < go) := Lib.hid (by have := HGK.out; have := HON.out.2.2.2.2.2.2.1; omega)
      go_roundg (c.blks.length - (H - c.first) - (j + 1))
      case measure => exact HG9.out.2
      case rel => exact ⟨j + 1, x2, 0, A9, cap9, bl2, bs2, l ++ s5, rfl, HG9.out.1, HL8.out⟩
end
end Go.Proofs.YtbjchfcoacmaaaaGreatDoor
