/- Merged: LwB, LwD, LwG. What a log's numbers may be; Append and Checkpoint of the program, whatever stands. Condition: sizes. Contract of the law's pair.do. Condition: sizes. Contract of the law's pair.do where it appends, or checkpoints. Condition: sizes. -/
import Derived.WalkSpells
import Derived.Outline
import Derived.Test.YtbpgfhcecanikaaGreatFrRSplitQ
import Derived.Test.YtbpgfhcecanikaaGreatWrFQ
import Derived.Test.YtbpgfhcecanikaaGreatWlHQ
import Derived.Test.YtbpgfhcecanikaaGreatWlOQ
import Derived.Test.YtbpgfhcecanikaaGreatWlNQ
import Derived.Test.YtbpgfhcecanikaaGreatWlKQ
import Derived.Deep.QuietTactic
import Derived.Deep.RegionHeld
import Derived.Test.YtbpgfhcecanikaaGreatRfNewQ
namespace Go.Proofs.YtbpgfhcecanikaaGreat
open Go.RowKit
set_option linter.unusedVariables false
/-- a log's numbers that may be -/
structure WvOk (b : Nat) (v : WalV) : Prop where
  g : v.g < M64
  sg : v.sg ≤ 1
  slot : v.slot ≤ 1
  used : v.used ≤ segN b
  cnt : v.cnt ≤ v.used
theorem nw_slot (a : Nat) (l : List ByteArray) : ∀ i, (nw a l i).2.2 < (i : Int)
  | 0 => by show (-1 : Int) < 0; decide
  | i + 1 => by
    have ih := nw_slot a l i
    unfold nw nwStep
    split
    · show (i : Int) < _; omega
    · omega
theorem scanF_at (a g : Nat) (s : ByteArray) : ∀ f x u, u * a ≤ s.size → (scanF a g s f x u).2 * a ≤ s.size ∧ (scanF a g s f x u).1.length + u ≤ (scanF a g s f x u).2 := by
  intro f
  induction f with
  | zero => intro x u h; exact ⟨h, by show 0 + u ≤ u; omega⟩
  | succ f ih =>
    intro x u h
    rw [scanF]
    split
    · rename_i hr
      obtain ⟨h1, h2⟩ := recOk_in hr
      obtain ⟨h3, h4⟩ := ih (x + 1) _ h2
      refine ⟨h3, ?_⟩
      simp only [List.length_cons]
      omega
    · exact ⟨h, by show 0 + u ≤ u; omega⟩
theorem opR_ok {a b K : Nat} {ws : List (Int × ByteArray)} {ar : Nat} {st : List Nat} (h : StOk a b K ws ar st) (ha : 64 ≤ a) : (opR a b ws ar st).2 ≤ segN b ∧ (opR a b ws ar st).1.length ≤ (opR a b ws ar st).2 := by
  have h1 : StOk a b (K + 1) (opF a b ws ar st).1 (opF a b ws ar st).2.1 (opF a b ws ar st).2.2.1 := by
    unfold opF
    split
    · unfold fdF
      split
      · exact layF_ok a b [hdPut a 1 0] 1 K _ _ _ (flF_ok h)
      · exact (flF_ok h).up (by omega)
    · exact (flF_ok h).up (by omega)
  have hz : (segT a b (opF a b ws ar st).1 (opF a b ws ar st).2.2.1 (opV0 a b ws ar st).sg).size ≤ segN b * a := by
    unfold segT
    rw [← nl_length, nl_txt _ (textF_lt _ _)]
    exact textF_length h1 _ _
  unfold opR scanAll
  split
  · rw [Int.toNat_natCast]
    obtain ⟨h3, h4⟩ := scanF_at a (opV0 a b ws ar st).g (segT a b (opF a b ws ar st).1 (opF a b ws ar st).2.2.1 (opV0 a b ws ar st).sg) ((segT a b (opF a b ws ar st).1 (opF a b ws ar st).2.2.1 (opV0 a b ws ar st).sg).size + 1) 0 0 (by omega)
    exact ⟨Nat.le_of_mul_le_mul_right (Nat.le_trans h3 hz) (by omega), by omega⟩
  · exact ⟨Nat.zero_le _, Nat.le_refl _⟩
theorem opV_ok {a b K : Nat} {ws : List (Int × ByteArray)} {ar : Nat} {st : List Nat} (h : StOk a b K ws ar st) (ha : 64 ≤ a) : WvOk b (opV a b ws ar st) := by
  obtain ⟨h1, h2⟩ := opR_ok h ha
  obtain ⟨f1, f2⟩ := fdV_fit a b (flF a ws ar st).1 (flF a ws ar st).2.1 (flF a ws ar st).2.2.1 wal0 (by show 0 < M64; decide) (Nat.zero_le _)
  refine ⟨f1, f2, ?_, h1, h2⟩
  show (fdV a b (flF a ws ar st).1 (flF a ws ar st).2.1 (flF a ws ar st).2.2.1 wal0).slot ≤ 1
  unfold fdV
  split
  · unfold headV
    split
    · exact Nat.le_refl 1
    · exact Nat.zero_le _
  · have := nw_slot a [txt (textF a b (flF a ws ar st).1 (flF a ws ar st).2.2.1 0 1), txt (textF a b (flF a ws ar st).1 (flF a ws ar st).2.2.1 1 1)] 2
    show (nwF a b (flF a ws ar st).1 (flF a ws ar st).2.2.1).2.2.toNat ≤ 1
    unfold nwF
    omega
theorem wl_append {w : World} {base B S a b R N : Nat} {buf : Value} {ws : List (Int × ByteArray)} {ar : Nat} {st : List Nat} {v : WalV} (h : WlS w base B S a b R buf ws ar st v) (ho : StOk a b N ws ar st) (hN : N + 220 ≤ 1000000) (hz : Siz a b) (hb : 4 ≤ b) (hv : WvOk b v) (s : ByteArray) :
    Calls Tryz.prog 26 #[.pointer (some ⟨R, 0, none⟩), .string s] w fun x w' => x = .returned (.int .i64 (apAll a b s ws ar st v).1.2.2.2) ∧ WoP w base B S a b R buf (apAll a b s ws ar st v).1.1 (apAll a b s ws ar st v).1.2.1 (apAll a b s ws ar st v).1.2.2.1 (apAll a b s ws ar st v).2 w' := by
  have hs3 : segN b ≤ 2500 := by have := hz.b1; unfold segN; omega
  have hu : v.used ≤ 3000 := Nat.le_trans hv.used (by omega)
  have hcn : v.cnt ≤ 1000000 := by have := hv.cnt; omega
  by_cases h1 : v.broken = true
  · have e : apAll a b s ws ar st v = ((ws, ar, st, 14), v) := if_pos h1
    rw [e]
    exact wl_append_broken h ho hN hz.n hz.a0 hz.a1 hb hz.b1 hv.sg hv.g hu hcn s h1
  · have h1' : v.broken = false := by simpa using h1
    by_cases h2 : v.ready = false
    · have e : apAll a b s ws ar st v = ((ws, ar, st, 15), v) := by unfold apAll; rw [if_neg h1, if_pos h2]
      rw [e]
      exact wl_append_order h ho hN hz.n hz.a0 hz.a1 hb hz.b1 hv.sg hv.g hu hcn s h1' h2
    · have h2' : v.ready = true := by simpa using h2
      by_cases h3 : s.size ≤ 4096
      · by_cases h4 : segN b < v.used + (frSplit (a : Int) v.g v.cnt s).1.length
        · have e : apAll a b s ws ar st v = ((ws, ar, st, 2), v) := by unfold apAll; rw [if_neg h1, if_neg h2, if_neg (by omega), if_pos h4]
          rw [e]
          exact wl_append_full h ho hN hz.n hz.a0 hz.a1 hb hz.b1 hv.sg hv.g hu hcn s h1' h2' h3 h4
        · have e : apAll a b s ws ar st v = (apF a b v.g v.sg v.used v.cnt s ws ar st, brokenV (apV v (frSplit (a : Int) v.g v.cnt s).1.length (apF a b v.g v.sg v.used v.cnt s ws ar st).2.2.2) (apF a b v.g v.sg v.used v.cnt s ws ar st).2.2.2) := by unfold apAll; rw [if_neg h1, if_neg h2, if_neg (by omega), if_neg h4]
          rw [e]
          exact wl_append_go h ho hN hz.n hz.a0 hz.a1 hb hz.b1 hv.sg hv.g hu hcn s h1' h2' h3 h4
      · have e : apAll a b s ws ar st v = ((ws, ar, st, 1), v) := by unfold apAll; rw [if_neg h1, if_neg h2, if_pos h3]
        rw [e]
        exact wl_append_range h ho hN hz.n hz.a0 hz.a1 hb hz.b1 hv.sg hv.g hu hcn s h1' h2' h3
theorem wl_ckpt {w : World} {base B S a b R N : Nat} {buf : Value} {ws : List (Int × ByteArray)} {ar : Nat} {st : List Nat} {v : WalV} (h : WlS w base B S a b R buf ws ar st v) (ho : StOk a b N ws ar st) (hN : N + 420 ≤ 1000000) (hz : Siz a b) (hb : 4 ≤ b) (hv : WvOk b v) (s : ByteArray) (hsz : s.size ≤ 1000000) :
    Calls Tryz.prog 25 #[.pointer (some ⟨R, 0, none⟩), .string s] w fun x w' => x = .returned (.int .i64 (ckAll a b s ws ar st v).1.2.2.2) ∧ WoP w base B S a b R buf (ckAll a b s ws ar st v).1.1 (ckAll a b s ws ar st v).1.2.1 (ckAll a b s ws ar st v).1.2.2.1 (ckAll a b s ws ar st v).2 w' := by
  by_cases h1 : v.broken = true
  · have e : ckAll a b s ws ar st v = ((ws, ar, st, 14), v) := if_pos h1
    rw [e]
    exact wl_ckpt_broken h ho hN hz.n hz.a0 hz.a1 hb hz.b1 hv.sg hv.slot hv.g s hsz h1
  · have h1' : v.broken = false := by simpa using h1
    by_cases h3 : s.size ≤ 4096
    · by_cases h4 : segN b < nParts a s.size
      · have e : ckAll a b s ws ar st v = ((ws, ar, st, 2), v) := by unfold ckAll; rw [if_neg h1, if_neg (by omega), if_pos h4]
        rw [e]
        exact wl_ckpt_full h ho hN hz.n hz.a0 hz.a1 hb hz.b1 hv.sg hv.slot hv.g s hsz h1' h3 h4
      · by_cases h5 : v.g + 1 = M64
        · have e : ckAll a b s ws ar st v = ((ws, ar, st, 12), v) := by unfold ckAll; rw [if_neg h1, if_neg (by omega), if_neg h4, if_pos h5]
          rw [e]
          exact wl_ckpt_over h ho hN hz.n hz.a0 hz.a1 hb hz.b1 hv.sg hv.slot hv.g s hsz h1' h3 h4 h5
        · have e : ckAll a b s ws ar st v = (ckF a b (v.g + 1) (1 - v.sg) v.slot s ws ar st, brokenV (ckV v (v.g + 1) (1 - v.sg) (nParts a s.size) (ckF a b (v.g + 1) (1 - v.sg) v.slot s ws ar st).2.2.2) (ckF a b (v.g + 1) (1 - v.sg) v.slot s ws ar st).2.2.2) := by unfold ckAll; rw [if_neg h1, if_neg (by omega), if_neg h4, if_neg h5]
          rw [e]
          exact wl_ckpt_go h ho hN hz.n hz.a0 hz.a1 hb hz.b1 hv.sg hv.slot hv.g s hsz h1' h3 h4 h5
    · have e : ckAll a b s ws ar st v = ((ws, ar, st, 1), v) := by unfold ckAll; rw [if_neg h1, if_pos h3]
      rw [e]
      exact wl_ckpt_range h ho hN hz.n hz.a0 hz.a1 hb hz.b1 hv.sg hv.slot hv.g s hsz h1' h3
theorem nParts_pos (a n : Nat) : 1 ≤ nParts a n := by unfold nParts; omega
theorem apAll_ok {a b N : Nat} {s : ByteArray} {ws : List (Int × ByteArray)} {ar : Nat} {st : List Nat} {v : WalV} (ho : StOk a b N ws ar st) (hz : Siz a b) (hv : WvOk b v) : StOk a b (N + 200) (apAll a b s ws ar st v).1.1 (apAll a b s ws ar st v).1.2.1 (apAll a b s ws ar st v).1.2.2.1 ∧ WvOk b (apAll a b s ws ar st v).2 := by
  unfold apAll
  split
  · exact ⟨ho.up (by omega), hv⟩
  · split
    · exact ⟨ho.up (by omega), hv⟩
    · split
      · exact ⟨ho.up (by omega), hv⟩
      · rename_i h3
        split
        · exact ⟨ho.up (by omega), hv⟩
        · rename_i h4
          refine ⟨(layF_ok a b (frSplit (a : Int) v.g v.cnt s).1 _ N ws ar st ho).up (by have := (split_sizes a v.g v.cnt s hz.a0).1; omega), ?_⟩
          have hl := split_len a v.g v.cnt s hz.a0 hz.a1 (by omega)
          have hp := nParts_pos a s.size
          have hcn := hv.cnt
          unfold brokenV apV
          split
          · exact ⟨hv.g, hv.sg, hv.slot, by show v.used + _ ≤ _; omega, by show v.cnt + 1 ≤ v.used + _; omega⟩
          · exact ⟨hv.g, hv.sg, hv.slot, hv.used, hv.cnt⟩
theorem ckAll_ok {a b N : Nat} {s : ByteArray} {ws : List (Int × ByteArray)} {ar : Nat} {st : List Nat} {v : WalV} (ho : StOk a b N ws ar st) (hz : Siz a b) (hv : WvOk b v) : StOk a b (N + 210) (ckAll a b s ws ar st v).1.1 (ckAll a b s ws ar st v).1.2.1 (ckAll a b s ws ar st v).1.2.2.1 ∧ WvOk b (ckAll a b s ws ar st v).2 := by
  unfold ckAll
  split
  · exact ⟨ho.up (by omega), hv⟩
  · split
    · exact ⟨ho.up (by omega), hv⟩
    · split
      · exact ⟨ho.up (by omega), hv⟩
      · rename_i h3
        split
        · exact ⟨ho.up (by omega), hv⟩
        · rename_i h4
          have h1 := layF_ok a b (frSplit (a : Int) (v.g + 1) 0 s).1 (2 + (1 - v.sg) * segN b) N ws ar st ho
          have hl := (split_sizes a (v.g + 1) 0 s hz.a0).1
          have hp := nParts_pos a s.size
          refine ⟨?_, ?_⟩
          · show StOk a b (N + 210) (ckF a b (v.g + 1) (1 - v.sg) v.slot s ws ar st).1 (ckF a b (v.g + 1) (1 - v.sg) v.slot s ws ar st).2.1 (ckF a b (v.g + 1) (1 - v.sg) v.slot s ws ar st).2.2.1
            unfold ckF
            split
            · exact (layF_ok a b [hdPut a (v.g + 1) (1 - v.sg)] (1 - v.slot) _ _ _ _ h1).up (by simp; omega)
            · exact h1.up (by omega)
          · unfold brokenV ckV
            have hg := hv.g
            split
            · exact ⟨by show v.g + 1 < M64; omega, by show 1 - v.sg ≤ 1; omega, by show 1 - v.slot ≤ 1; omega, by show nParts a s.size ≤ _; omega, by show 1 ≤ nParts a s.size; exact hp⟩
            · exact ⟨hv.g, hv.sg, hv.slot, hv.used, hv.cnt⟩
end Go.Proofs.YtbpgfhcecanikaaGreat
namespace Go.Proofs.YtbpgfhcecanikaaGreat
open Go.RowKit
set_option linter.unusedVariables false
/-- a pair that stands alike, with numbers that may be -/
def PrG (W w : World) (A : PairA) (a b N K : Nat) : Prop := ∃ ws ar st o e rl, PrI W w A a b N ws ar st o e rl ∧ StOk a b K ws ar st ∧ (∀ v, o = some v → WvOk b v ∧ 4 ≤ b)
theorem opO_some {a b K : Nat} {ws : List (Int × ByteArray)} {ar : Nat} {st : List Nat} (ho : StOk a b K ws ar st) (ha : 64 ≤ a) : ∀ v, opO a b ws ar st = some v → WvOk b v ∧ 4 ≤ b := fun v h => by
  unfold opO at h
  split at h
  · rename_i hc
    injection h with h
    subst h
    refine ⟨opV_ok ho ha, ?_⟩
    by_cases hb : b < 4
    · unfold opD at hc
      rw [if_pos hb] at hc
      cases hc
    · omega
  · cases h
theorem opL_le {a b K : Nat} {ws : List (Int × ByteArray)} {ar : Nat} {st : List Nat} (ho : StOk a b K ws ar st) (hz : Siz a b) : (opL a b ws ar st).length ≤ 100000 := by
  unfold opL
  split
  · have h := opR_ok ho hz.a0
    have h1 : segN b ≤ 2500 := by have := hz.b1; unfold segN; omega
    omega
  · exact Nat.zero_le _
theorem crash_ok {a b K : Nat} {ws : List (Int × ByteArray)} {ar : Nat} {st : List Nat} (h : StOk a b K ws ar st) (l : List (Bool × Int)) : StOk a b K [] 0 (crashB a ws l false st) := by
  obtain ⟨q1, q2⟩ := crashB_ok a b ws l false st h.w h.len h.lt
  exact ⟨WsOk.nil a b, q1, q2, Nat.zero_le _, Nat.zero_le _⟩
/-- the cells of the pair and of the act -/
def DoC (w : World) (A : PairA) (X : Nat) (pw pv : Value) (s : ByteArray) : Prop := w.cell? ⟨A.P, 1, none⟩ = some pw ∧ w.cell? ⟨A.P, 5, none⟩ = some pv ∧ w.cell? ⟨X, 2, none⟩ = some (.string s)
def DaC (w : World) (A : PairA) (X : Nat) (c : ActW) : Prop := w.cell? ⟨A.P, 0, none⟩ = some (.pointer (some ⟨A.D, 0, none⟩)) ∧ w.cell? ⟨A.P, 4, none⟩ = some (.pointer (some ⟨A.R, 0, none⟩)) ∧ w.cell? ⟨X, 0, none⟩ = some (.int .i64 c.kind) ∧ w.cell? ⟨X, 1, none⟩ = some (.int .i64 c.n) ∧ w.cell? ⟨X, 2, none⟩ = some (.string c.s) ∧ w.cell? ⟨X, 3, none⟩ = some (.slice c.la c.l.length c.lcap) ∧ w.cell? ⟨X, 4, none⟩ = some (.slice c.ta c.t.length c.tcap)
theorem ty_ne {w : World} {i j : Nat} {t u : TypeId} {cs ds : Array Value} {y z : Nat × Nat} (h1 : w.heap[i]? = some (.cells cs t y)) (h2 : w.heap[j]? = some (.cells ds u z)) (h : t ≠ u) : i ≠ j := fun e => by
  subst e
  rw [h1] at h2
  injection h2 with h2
  injection h2 with h3 h4
  exact h h4
theorem row_ne {w : World} {base size n X : Nat} {t u : TypeId} {v : Value} {xs : List Value} {cs : Array Value} {y : Nat × Nat} (h : w.ownsRow base t size v n xs) (hx : w.heap[X]? = some (.cells cs u y)) (ht : t ≠ u) : v.ownBlock ≠ some X := fun e => by
  rcases h.2 with ⟨rfl, _⟩ | ⟨g, cap, cur, rfl, _, hb, _⟩
  · cases e
  · have : g = X := by simpa [Value.ownBlock] using e
    subst this
    exact ty_ne hb hx ht rfl
/-- a pair and an act's box -/
structure DoI (W z : World) (A : PairA) (a b N : Nat) (bufD : Value) (ws1 : List (Int × ByteArray)) (ar1 : Nat) (st1 : List Nat) (vl : Option (Nat × WalV)) (bufR : Value) (ws2 : List (Int × ByteArray)) (ar2 : Nat) (st2 : List Nat) (vq : Option (Nat × WalV)) (pw : Value) (e : Int) (rs pv : Value) (LA : Option Addr) (rl : List ByteArray) (X : Nat) (c : ActW) : Prop where
  p : PrS W z A a b N bufD ws1 ar1 st1 vl bufR ws2 ar2 st2 vq (pcells A pw e rs pv) LA rl
  x : LaC z X c
section
variable {W z z' : World} {A : PairA} {a b N : Nat} {bufD bufR : Value} {ws1 ws2 ws' : List (Int × ByteArray)} {ar1 ar2 ar' : Nat} {st1 st2 st' : List Nat} {vl vq : Option (Nat × WalV)} {pw rs pv : Value} {e : Int} {LA : Option Addr} {rl : List ByteArray} {X : Nat} {c : ActW}
theorem DoI.doc (h : DoI W z A a b N bufD ws1 ar1 st1 vl bufR ws2 ar2 st2 vq pw e rs pv LA rl X c) : DoC z A X pw pv c.s := ⟨h.p.c1, h.p.c5, Kq.blk_cell h.x 2⟩
theorem DoI.dac (h : DoI W z A a b N bufD ws1 ar1 st1 vl bufR ws2 ar2 st2 vq pw e rs pv LA rl X c) : DaC z A X c := ⟨h.p.c0, h.p.c4, Kq.blk_cell h.x 0, Kq.blk_cell h.x 1, Kq.blk_cell h.x 2, Kq.blk_cell h.x 3, Kq.blk_cell h.x 4⟩
theorem DoI.below (h : DoI W z A a b N bufD ws1 ar1 st1 vl bufR ws2 ar2 st2 vq pw e rs pv LA rl X c) (hb : Below z.heap.size z z') : DoI W z' A a b N bufD ws1 ar1 st1 vl bufR ws2 ar2 st2 vq pw e rs pv LA rl X c := ⟨h.p.below hb, Kq.below_blk hb h.x (Kq.blk_lt h.x)⟩
theorem DoI.nD (h : DoI W z A a b N bufD ws1 ar1 st1 vl bufR ws2 ar2 st2 vq pw e rs pv LA rl X c) : ¬ Own A.D A.S bufD X := fun hh => by
  rcases hh with hh | hh | hh
  · exact ty_ne h.x h.p.d.d.blk (by decide) hh
  · exact ty_ne h.x h.p.d.s (by decide) hh
  · exact row_ne h.p.d.d.own h.x (by decide) hh
theorem DoI.nR (h : DoI W z A a b N bufD ws1 ar1 st1 vl bufR ws2 ar2 st2 vq pw e rs pv LA rl X c) : ¬ X = A.R := fun hh => ty_ne h.x h.p.r.blk (by decide) hh
theorem DoI.nP (h : DoI W z A a b N bufD ws1 ar1 st1 vl bufR ws2 ar2 st2 vq pw e rs pv LA rl X c) : ¬ X = A.P := fun hh => ty_ne h.x h.p.p (by decide) hh
theorem DoI.stepA {L : Nat} {v v' : WalV} (h : DoI W z A a b N bufD ws1 ar1 st1 (some (L, v)) bufR ws2 ar2 st2 vq pw e rs pv LA rl X c) (hw : WoP z A.bD A.D A.S a b L bufD ws' ar' st' v' z') : ∃ bufD', DoI W z' A a b N bufD' ws' ar' st' (some (L, v')) bufR ws2 ar2 st2 vq pw e rs pv LA rl X c := by
  obtain ⟨bufD', hp⟩ := h.p.stepA hw
  obtain ⟨_, _, hk, _⟩ := hw
  exact ⟨bufD', hp, hk.blk h.x (fun hh => hh.elim h.nD (fun hh => ty_ne h.x (h.p.l L v rfl).1 (by decide) hh))⟩
theorem DoI.stepB {Q : Nat} {v v' : WalV} (h : DoI W z A a b N bufD ws1 ar1 st1 vl bufR ws2 ar2 st2 (some (Q, v)) pw e rs pv LA rl X c) (hw : RvP z A.bR A.R a b Q bufR ws' ar' st' v' z') : ∃ bufR', DoI W z' A a b N bufD ws1 ar1 st1 vl bufR' ws' ar' st' (some (Q, v')) pw e rs pv LA rl X c := by
  obtain ⟨bufR', hp⟩ := h.p.stepB hw
  obtain ⟨_, _, hk, _⟩ := hw
  exact ⟨bufR', hp, hk.blk h.x (fun hh => hh.elim h.nR (fun hh => ty_ne h.x (h.p.q Q v rfl).1 (by decide) hh))⟩
theorem DoI.stepD (h : DoI W z A a b N bufD ws1 ar1 st1 none bufR ws2 ar2 st2 vq pw e rs pv LA rl X c) (hw : DoP z A.bD A.D A.S a b bufD ws' ar' st' z') : ∃ bufD', DoI W z' A a b N bufD' ws' ar' st' none bufR ws2 ar2 st2 vq pw e rs pv LA rl X c := by
  obtain ⟨bufD', hp⟩ := h.p.stepD hw
  obtain ⟨_, _, hk, _⟩ := hw
  exact ⟨bufD', hp, hk.blk h.x h.nD⟩
theorem DoI.stepR (h : DoI W z A a b N bufD ws1 ar1 st1 vl bufR ws2 ar2 st2 none pw e rs pv LA rl X c) (hw : RoP z A.bR A.R a b bufR ws' ar' st' z') : ∃ bufR', DoI W z' A a b N bufD ws1 ar1 st1 vl bufR' ws' ar' st' none pw e rs pv LA rl X c := by
  obtain ⟨bufR', hp⟩ := h.p.stepR hw
  obtain ⟨_, _, hk, _⟩ := hw
  exact ⟨bufR', hp, hk.blk h.x h.nR⟩
theorem DoI.set {pw' rs' pv' : Value} {e' : Int} (h : DoI W z A a b N bufD ws1 ar1 st1 vl bufR ws2 ar2 st2 vq pw e rs pv LA rl X c) (hk : Kq.Keeps (· = A.P) z z') (hb : z'.heap[A.P]? = some (.cells (pcells A pw' e' rs' pv') 40 (0, 0))) : DoI W z' A a b N bufD ws1 ar1 st1 vl bufR ws2 ar2 st2 vq pw' e' rs' pv' LA rl X c := ⟨h.p.set hk hb, hk.blk h.x h.nP⟩
/-- the program's log, armed anew; its log stays -/
theorem DoI.armA (h : DoI W z A a b N bufD ws1 ar1 st1 vl bufR ws2 ar2 st2 vq pw e rs pv LA rl X c) (hd : DkS z' A.bD A.D A.S a b bufD ws1 (ar' : Int) st1) (hk : Kq.Keeps (· = A.D) z z') : DoI W z' A a b N bufD ws1 ar' st1 vl bufR ws2 ar2 st2 vq pw e rs pv LA rl X c := by
  cases vl with
  | none =>
    have h2 := h.p.stepDk hd (hk.mono (fun j _ e => Or.inl e)) (fun j hj => Or.inl hj)
    exact ⟨h2, hk.blk h.x (fun e => h.nD (Or.inl e))⟩
  | some x =>
    obtain ⟨L, v⟩ := x
    have hno : ∀ j, ownP A bufD (some (L, v)) bufR vq LA rl.length 0 j → ¬ j = L ∨ True := fun j _ => Or.inr trivial
    have hL := h.p.wl
    have hW : WlS z' A.bD A.D A.S a b L bufD ws1 ar' st1 v := ⟨hd, hk.blk hL.blk (fun e => hL.sep (Or.inl e)), hL.sep⟩
    have h0 := h.p.forgetL.stepDk hd (hk.mono (fun j _ e => Or.inl e)) (fun j hj => Or.inl hj)
    refine ⟨h0.logNew hW (h.p.ow.ge 0 L (ownP.l rfl)) (fun i hi => ?_), hk.blk h.x (fun e => h.nD (Or.inl e))⟩
    by_cases e : i = 0
    · subst e
      rcases hi.i0 with e | ⟨u, e⟩
      · exact hL.sep e
      · cases e
    · exact e (h.p.ow.ap i 0 L (hi.not (fun e' => absurd e' e) (fun _ => ⟨rfl, rfl⟩) (fun _ => ⟨rfl, rfl⟩)) (ownP.l rfl))
theorem DoI.armB (h : DoI W z A a b N bufD ws1 ar1 st1 vl bufR ws2 ar2 st2 vq pw e rs pv LA rl X c) (hd : RfS z' A.bR A.R a b bufR ws2 (ar' : Int) st2) (hk : Kq.Keeps (· = A.R) z z') : DoI W z' A a b N bufD ws1 ar1 st1 vl bufR ws2 ar' st2 vq pw e rs pv LA rl X c := by
  cases vq with
  | none => exact ⟨h.p.stepRk hd hk (fun j hj => Or.inl hj), hk.blk h.x h.nR⟩
  | some x =>
    obtain ⟨Q, v⟩ := x
    have hL := h.p.rv
    have hW : RvS z' A.bR A.R a b Q bufR ws2 ar' st2 v := ⟨hd, hk.blk hL.blk (fun e => hL.sep (Or.inl e)), hL.sep⟩
    have h0 := h.p.forgetQ.stepRk hd hk (fun j hj => Or.inl hj)
    refine ⟨h0.logNewQ hW (h.p.ow.ge 1 Q (ownP.q rfl)) (fun i hi => ?_), hk.blk h.x h.nR⟩
    by_cases e : i = 1
    · subst e
      rcases hi.i1 with e | e | ⟨u, e⟩
      · exact hL.sep (Or.inl e)
      · exact hL.sep (Or.inr e)
      · cases e
    · exact e (h.p.ow.ap i 1 Q (hi.not (fun _ => ⟨rfl, rfl⟩) (fun e' => absurd e' e) (fun _ => ⟨rfl, rfl⟩)) (ownP.q rfl))
end
end Go.Proofs.YtbpgfhcecanikaaGreat
namespace Go.Proofs.YtbpgfhcecanikaaGreat
open Go.RowKit
set_option linter.unusedVariables false
set_option maxRecDepth 100000 in
set_option maxHeartbeats 4000000 in
theorem pr_do_ap {W w : World} {A : PairA} {a b N kb L Q : Nat} {bufD bufR : Value} {ws : List (Int × ByteArray)} {ar : Nat} {st : List Nat} {v : WalV} {rs : Value} {e : Int} {LA : Option Addr} {rl : List ByteArray} (h : PrS W w A a b N bufD ws ar st (some (L, v)) bufR ws ar st (some (Q, v)) (pcells A (.pointer (some ⟨L, 0, none⟩)) e rs (.pointer (some ⟨Q, 0, none⟩))) LA rl) (ho : StOk a b kb ws ar st) (hz : Siz a b) (hb : 4 ≤ b) (hv : WvOk b v) (hK : kb + 700 ≤ 1000000) (hN : N + kb + 300 ≤ 1000000) (c : ActW) (hs : c.s.size ≤ 5000) (hk : c.kind = 0) :
    Calls Tryz.prog 10 #[.pointer (some ⟨A.P, 0, none⟩), c.val] w fun x w' => x = .returned (.bool true) ∧ ∃ bufD' bufR', PrS W w' A a b (N + kb + 300) bufD' (apAll a b c.s ws ar st v).1.1 (apAll a b c.s ws ar st v).1.2.1 (apAll a b c.s ws ar st v).1.2.2.1 (some (L, (apAll a b c.s ws ar st v).2)) bufR' (apAll a b c.s ws ar st v).1.1 (apAll a b c.s ws ar st v).1.2.1 (apAll a b c.s ws ar st v).1.2.2.1 (some (Q, (apAll a b c.s ws ar st v).2)) (pcells A (.pointer (some ⟨L, 0, none⟩)) (apAll a b c.s ws ar st v).1.2.2.2 rs (.pointer (some ⟨Q, 0, none⟩))) LA rl := by
  obtain ⟨kind, n, s, la, lcap, l, ta, tcap, t⟩ := c
  simp only at hs hk ⊢
  subst hk
  obtain ⟨w1, hw1⟩ : ∃ z, z = w.alloc (.cells #[.int .i64 0, .int .i64 n, .string s, .slice la l.length lcap, .slice ta t.length tcap] 31) := ⟨_, rfl⟩
  obtain ⟨X, hX⟩ : ∃ z, z = w.heap.size := ⟨_, rfl⟩
  have hb1 : Below w.heap.size w w1 := by rw [hw1]; exact Kq.below_alloc _ _
  have hx1 : LaC w1 X ⟨0, n, s, la, lcap, l, ta, tcap, t⟩ := by unfold LaC; rw [hw1, hX]; exact Kq.blk_new _ _ _ _
  have I1 : Hid (DoI W w1.drew A a b N bufD ws ar st (some (L, v)) bufR ws ar st (some (Q, v)) (.pointer (some ⟨L, 0, none⟩)) e rs (.pointer (some ⟨Q, 0, none⟩)) LA rl X ⟨0, n, s, la, lcap, l, ta, tcap, t⟩) := Lib.hid ((⟨h.below hb1, hx1⟩ : DoI W w1 A a b N bufD ws ar st (some (L, v)) bufR ws ar st (some (Q, v)) (.pointer (some ⟨L, 0, none⟩)) e rs (.pointer (some ⟨Q, 0, none⟩)) LA rl X ⟨0, n, s, la, lcap, l, ta, tcap, t⟩).below (Below.refl _ _).drew)
  have p1 := h.c1
  have p5 := h.c5
  have hPl : A.P < w.heap.size := Kq.blk_lt h.p
  have hPn : A.P ≠ w.heap.size := by omega
  have HW1 := Lib.hid (And.intro hw1 hX)
  have hs3 : segN b ≤ 2500 := by have := hz.b1; unfold segN; omega
  have HH := Lib.hid (And.intro ho (And.intro hz (And.intro hb (And.intro hv (And.intro hK (And.intro hN (And.intro hs (And.intro (show v.used ≤ 3000 from Nat.le_trans hv.used (by omega)) (show v.cnt ≤ 1000000 by have := hv.cnt; have := hv.used; omega)))))))))
  have HOK := Lib.hid (apAll_ok (s := s) ho hz hv)
  clear h hw1 hX hb1 hx1 ho hz hb hv hK hN hs hs3
  unfold ActW.val
  simp only
  go_enter Tryz.func10, Tryz.ntmps10
  go_wp2_with fail
  rw [← HW1.out.1, ← HW1.out.2]
  clear p1 p5 hPl hPn
  obtain ⟨c, hcc⟩ : ∃ c : ActW, c = ⟨0, n, s, la, lcap, l, ta, tcap, t⟩ := ⟨_, rfl⟩
  have HCS : Hid (c.s = s) := Lib.hid (by rw [hcc])
  rw [← hcc] at I1
  clear hcc
  refine wp_region_held_drew (S := fun w' => DoC w' A X (.pointer (some ⟨L, 0, none⟩)) (.pointer (some ⟨Q, 0, none⟩)) s) (by kernel_rfl) (HCS.out ▸ I1.out.doc) (fun hS0 => ?_)
  generalize w1.drew = z1 at *
  unfold DoC at hS0
  dsimp only [DoC]
  refine wpAnyH_take (i := 0) (v := ?_) rfl (by kernel_rfl) (by kernel_rfl) (by kernel_rfl) (fun _ _ _ h => h) (Or.inl ⟨by kernel_rfl, ?_⟩) (by assumption) ?_
  rotate_left
  · intro w hSw; (try dsimp only at hSw); go_simp; (try with_reducible rfl)
  refine wpAnyH_take (i := 1) (v := ?_) rfl (by kernel_rfl) (by kernel_rfl) (by kernel_rfl) (fun _ _ _ h => h) (Or.inl ⟨by kernel_rfl, ?_⟩) (by assumption) ?_
  rotate_left
  · intro w hSw; (try dsimp only at hSw); go_simp; (try with_reducible rfl)
  refine wpAnyH_take (i := 2) (v := ?_) rfl (by kernel_rfl) (by kernel_rfl) (by kernel_rfl) (fun _ _ _ h => h) (Or.inl ⟨by kernel_rfl, ?_⟩) (by assumption) ?_
  rotate_left
  · intro w hSw; (try dsimp only at hSw); go_simp; (try with_reducible rfl)
  refine wpAnyH_take (i := 3) (v := ?_) rfl (by kernel_rfl) (by kernel_rfl) (by kernel_rfl) (fun _ _ _ h => h) (Or.inl ⟨by kernel_rfl, ?_⟩) (by assumption) ?_
  rotate_left
  · intro w hSw; (try dsimp only at hSw); go_simp; (try with_reducible rfl)
  refine wpAnyH_take (i := 4) (v := ?_) rfl (by kernel_rfl) (by kernel_rfl) (by kernel_rfl) (fun _ _ _ h => h) (Or.inl ⟨by kernel_rfl, ?_⟩) (by assumption) ?_
  rotate_left
  · intro w hSw; (try dsimp only at hSw); go_simp; (try with_reducible rfl)
  refine wpAnyH_take (i := 5) (v := ?_) rfl (by kernel_rfl) (by kernel_rfl) (by kernel_rfl) (fun _ _ _ h => h) (Or.inl ⟨by kernel_rfl, ?_⟩) (by assumption) ?_
  rotate_left
  · intro w hSw; (try dsimp only at hSw); go_simp; (try with_reducible rfl)
  refine wpAnyH_ready (rs := [6]) (by kernel_rfl) (by simp) ?_
  refine AllReadyH.cons rfl (fun K hK => ?_) AllReadyH.nil
  go_simp
  refine (rv_append I1.out.p.rv HH.out.1 (by have := HH.out.2.2.2.2.1; omega) HH.out.2.1.n HH.out.2.1.a0 HH.out.2.1.a1 HH.out.2.2.1 HH.out.2.1.b1 HH.out.2.2.2.1.sg HH.out.2.2.2.1.g HH.out.2.2.2.2.2.2.2.1 HH.out.2.2.2.2.2.2.2.2 s).mono ?_
  rintro x z2 ⟨rfl, hr⟩
  obtain ⟨bufR2, I2x⟩ := I1.out.stepB hr
  obtain ⟨y, hy⟩ : ∃ y, y = apAll a b s ws ar st v := ⟨_, rfl⟩
  have HY := Lib.hid hy
  rw [← hy] at I2x HOK ⊢
  have I2 := Lib.hid I2x
  clear hS0 hr I2x
  refine hK.out _ _ (HCS.out ▸ I2.out.doc) (fun hS0 => ?_)
  clear hK K
  refine wpAnyH_take (i := 7) (v := ?_) rfl (by kernel_rfl) (by kernel_rfl) (by kernel_rfl) (fun _ _ _ h => h) (Or.inl ⟨by kernel_rfl, ?_⟩) (by assumption) ?_
  rotate_left
  · intro w hSw; (try dsimp only at hSw); go_simp; (try with_reducible rfl)
  refine wpAnyH_done (by kernel_rfl) ?_ _
  clear hS0
  go_simp
  have I2d := Lib.hid (I2.out.below (Below.refl _ _).drew)
  go_wp2_with fail
  refine wp_region_held_drew (S := fun w' => DoC w' A X (.pointer (some ⟨L, 0, none⟩)) (.pointer (some ⟨Q, 0, none⟩)) s) (by kernel_rfl) (HCS.out ▸ I2d.out.doc) (fun hS0 => ?_)
  generalize z2.drew = z3 at *
  unfold DoC at hS0
  dsimp only [DoC]
  refine wpAnyH_take (i := 0) (v := ?_) rfl (by kernel_rfl) (by kernel_rfl) (by kernel_rfl) (fun _ _ _ h => h) (Or.inl ⟨by kernel_rfl, ?_⟩) (by assumption) ?_
  rotate_left
  · intro w hSw; (try dsimp only at hSw); go_simp; (try with_reducible rfl)
  refine wpAnyH_take (i := 1) (v := ?_) rfl (by kernel_rfl) (by kernel_rfl) (by kernel_rfl) (fun _ _ _ h => h) (Or.inl ⟨by kernel_rfl, ?_⟩) (by assumption) ?_
  rotate_left
  · intro w hSw; (try dsimp only at hSw); go_simp; (try with_reducible rfl)
  refine wpAnyH_take (i := 2) (v := ?_) rfl (by kernel_rfl) (by kernel_rfl) (by kernel_rfl) (fun _ _ _ h => h) (Or.inl ⟨by kernel_rfl, ?_⟩) (by assumption) ?_
  rotate_left
  · intro w hSw; (try dsimp only at hSw); go_simp; (try with_reducible rfl)
  refine wpAnyH_take (i := 3) (v := ?_) rfl (by kernel_rfl) (by kernel_rfl) (by kernel_rfl) (fun _ _ _ h => h) (Or.inl ⟨by kernel_rfl, ?_⟩) (by assumption) ?_
  rotate_left
  · intro w hSw; (try dsimp only at hSw); go_simp; (try with_reducible rfl)
  refine wpAnyH_take (i := 4) (v := ?_) rfl (by kernel_rfl) (by kernel_rfl) (by kernel_rfl) (fun _ _ _ h => h) (Or.inl ⟨by kernel_rfl, ?_⟩) (by assumption) ?_
  rotate_left
  · intro w hSw; (try dsimp only at hSw); go_simp; (try with_reducible rfl)
  refine wpAnyH_take (i := 5) (v := ?_) rfl (by kernel_rfl) (by kernel_rfl) (by kernel_rfl) (fun _ _ _ h => h) (Or.inl ⟨by kernel_rfl, ?_⟩) (by assumption) ?_
  rotate_left
  · intro w hSw; (try dsimp only at hSw); go_simp; (try with_reducible rfl)
  refine wpAnyH_take (i := 6) (v := ?_) rfl (by kernel_rfl) (by kernel_rfl) (by kernel_rfl) (fun _ _ _ h => h) (Or.inl ⟨by kernel_rfl, ?_⟩) (by assumption) ?_
  rotate_left
  · intro w hSw; (try dsimp only at hSw); go_simp; (try with_reducible rfl)
  refine wpAnyH_ready (rs := [7]) (by kernel_rfl) (by simp) ?_
  refine AllReadyH.cons rfl (fun K hK => ?_) AllReadyH.nil
  go_simp
  refine (wl_append I2d.out.p.wl HH.out.1 (by have := HH.out.2.2.2.2.1; omega) HH.out.2.1 HH.out.2.2.1 HH.out.2.2.2.1 s).mono ?_
  rintro x z4 ⟨rfl, hr⟩
  obtain ⟨bufD4, I4x⟩ := I2d.out.stepA hr
  rw [← hy] at I4x ⊢
  have I4 := Lib.hid I4x
  clear hS0 hr I4x hy
  refine hK.out _ _ (HCS.out ▸ I4.out.doc) (fun hS0 => ?_)
  clear hK K
  refine wpAnyH_take (i := 8) (v := ?_) rfl (by kernel_rfl) (by kernel_rfl) (by kernel_rfl) (fun _ _ _ h => h) (Or.inl ⟨by kernel_rfl, ?_⟩) (by assumption) ?_
  rotate_left
  · intro w hSw; (try dsimp only at hSw); go_simp; (try with_reducible rfl)
  refine wpAnyH_take (i := 9) (v := ?_) rfl (by kernel_rfl) (by kernel_rfl) (by kernel_rfl) (fun _ _ _ h => h) (Or.inl ⟨by kernel_rfl, ?_⟩) (by assumption) ?_
  rotate_left
  · intro w hSw; (try dsimp only at hSw); go_simp; (try with_reducible rfl)
  have f2 := I4.out.p.fz 2
  have k2 := I4.out.p.c2
  refine wpAnyH_ready (rs := [10]) (by kernel_rfl) (by simp) ?_
  refine AllReadyH.cons rfl (fun K hK => ?_) AllReadyH.nil
  go_simp
  obtain ⟨⟨ws5, ar5, st5, co⟩, v5⟩ := y
  simp only at I4 HOK ⊢
  obtain ⟨z5, hz5⟩ : ∃ z, z = z4.setCell ⟨A.P, 2, none⟩ (.int .i64 co) := ⟨_, rfl⟩
  have hk5 : Kq.Keeps (· = A.P) z4 z5 := by rw [hz5]; exact Kq.Keeps.setCell _ _ _ rfl
  have hb5 : z5.heap[A.P]? = some (.cells (pcells A (.pointer (some ⟨L, 0, none⟩)) co rs (.pointer (some ⟨Q, 0, none⟩))) 40 (0, 0)) := by rw [hz5]; exact Kq.blk_set I4.out.p.p 2 _
  have I5 := Lib.hid (I4.out.set hk5 hb5)
  rw [← hz5]
  clear hS0 hk5 hb5 hz5 f2 k2
  refine hK.out _ _ (HCS.out ▸ I5.out.doc) (fun hS0 => ?_)
  clear hK K
  refine wpAnyH_done (by kernel_rfl) ?_ _
  clear hS0
  go_simp
  have P5d := Lib.hid I5.out.p.drew
  go_wp2_with fail
  refine wp_region_held_drew (S := fun w' => OnC w' A) (by kernel_rfl) P5d.out.onc (fun hS0 => ?_)
  unfold OnC at hS0
  dsimp only [OnC]
  refine wpAnyH_take (i := 0) (v := ?_) rfl (by kernel_rfl) (by kernel_rfl) (by kernel_rfl) (fun _ _ _ h => h) (Or.inl ⟨by kernel_rfl, ?_⟩) (by assumption) ?_
  rotate_left
  · intro w hSw; (try dsimp only at hSw); go_simp; (try with_reducible rfl)
  refine wpAnyH_take (i := 1) (v := ?_) rfl (by kernel_rfl) (by kernel_rfl) (by kernel_rfl) (fun _ _ _ h => h) (Or.inl ⟨by kernel_rfl, ?_⟩) (by assumption) ?_
  rotate_left
  · intro w hSw; (try dsimp only at hSw); go_simp; (try with_reducible rfl)
  refine wpAnyH_take (i := 2) (v := ?_) rfl (by kernel_rfl) (by kernel_rfl) (by kernel_rfl) (fun _ _ _ h => h) (Or.inl ⟨by kernel_rfl, ?_⟩) (by assumption) ?_
  rotate_left
  · intro w hSw; (try dsimp only at hSw); go_simp; (try with_reducible rfl)
  refine wpAnyH_take (i := 3) (v := ?_) rfl (by kernel_rfl) (by kernel_rfl) (by kernel_rfl) (fun _ _ _ h => h) (Or.inl ⟨by kernel_rfl, ?_⟩) (by assumption) ?_
  rotate_left
  · intro w hSw; (try dsimp only at hSw); go_simp; (try with_reducible rfl)
  refine wpAnyH_take (i := 4) (v := ?_) rfl (by kernel_rfl) (by kernel_rfl) (by kernel_rfl) (fun _ _ _ h => h) (Or.inl ⟨by kernel_rfl, ?_⟩) (by assumption) ?_
  rotate_left
  · intro w hSw; (try dsimp only at hSw); go_simp; (try with_reducible rfl)
  refine wpAnyH_take (i := 5) (v := ?_) rfl (by kernel_rfl) (by kernel_rfl) (by kernel_rfl) (fun _ _ _ h => h) (Or.inl ⟨by kernel_rfl, ?_⟩) (by assumption) ?_
  rotate_left
  · intro w hSw; (try dsimp only at hSw); go_simp; (try with_reducible rfl)
  refine wpAnyH_take (i := 6) (v := ?_) rfl (by kernel_rfl) (by kernel_rfl) (by kernel_rfl) (fun _ _ _ h => h) (Or.inl ⟨by kernel_rfl, ?_⟩) (by assumption) ?_
  rotate_left
  · intro w hSw; (try dsimp only at hSw); go_simp; (try with_reducible rfl)
  refine wpAnyH_take (i := 7) (v := ?_) rfl (by kernel_rfl) (by kernel_rfl) (by kernel_rfl) (fun _ _ _ h => h) (Or.inl ⟨by kernel_rfl, ?_⟩) (by assumption) ?_
  rotate_left
  · intro w hSw; (try dsimp only at hSw); go_simp; (try with_reducible rfl)
  refine wpAnyH_ready (rs := [8]) (by kernel_rfl) (by simp) ?_
  refine AllReadyH.cons rfl (fun K hK => ?_) AllReadyH.nil
  go_simp
  refine (rv_note (K := kb + 200) P5d.out.r (by rw [Int.toNat_natCast]; exact HOK.out.1) P5d.out.n P5d.out.mR.1 P5d.out.mR.2.1 (by have := HH.out.2.2.2.2.2.1; have := HOK.out.1.nw; omega) (by have := HH.out.2.1.a1; omega)).mono ?_
  rintro x z6 ⟨rfl, hn6, hk6⟩
  have hnn : N + ws5.length ≤ N + kb + 300 := by have := HOK.out.1.nw; omega
  have hn6' : NotS z6 A.Wh A.M (N + kb + 300) := ⟨hn6.blk, by obtain ⟨f, sz, hm⟩ := hn6.map; exact ⟨f, sz, hm.up hnn⟩, hn6.ne⟩
  have HP6 := Lib.hid (P5d.out.noteOk hn6' hk6)
  clear hS0 hn6 hk6 hn6' hnn
  refine hK.out _ _ HP6.out.onc (fun hS0 => ?_)
  clear hK K
  refine wpAnyH_done (by kernel_rfl) ?_ _
  clear hS0
  go_simp
  have q2 := HP6.out.c2
  go_wp2
  go_ret
  exact ⟨by simp, bufD4, bufR2, by rw [← HY.out]; exact HP6.out⟩
set_option maxRecDepth 100000 in
set_option maxHeartbeats 4000000 in
theorem pr_do_ck {W w : World} {A : PairA} {a b N kb L Q : Nat} {bufD bufR : Value} {ws : List (Int × ByteArray)} {ar : Nat} {st : List Nat} {v : WalV} {rs : Value} {e : Int} {LA : Option Addr} {rl : List ByteArray} (h : PrS W w A a b N bufD ws ar st (some (L, v)) bufR ws ar st (some (Q, v)) (pcells A (.pointer (some ⟨L, 0, none⟩)) e rs (.pointer (some ⟨Q, 0, none⟩))) LA rl) (ho : StOk a b kb ws ar st) (hz : Siz a b) (hb : 4 ≤ b) (hv : WvOk b v) (hK : kb + 700 ≤ 1000000) (hN : N + kb + 300 ≤ 1000000) (c : ActW) (hs : c.s.size ≤ 5000) (hk : c.kind = 1) :
    Calls Tryz.prog 10 #[.pointer (some ⟨A.P, 0, none⟩), c.val] w fun x w' => x = .returned (.bool true) ∧ ∃ bufD' bufR', PrS W w' A a b (N + kb + 300) bufD' (ckAll a b c.s ws ar st v).1.1 (ckAll a b c.s ws ar st v).1.2.1 (ckAll a b c.s ws ar st v).1.2.2.1 (some (L, (ckAll a b c.s ws ar st v).2)) bufR' (ckAll a b c.s ws ar st v).1.1 (ckAll a b c.s ws ar st v).1.2.1 (ckAll a b c.s ws ar st v).1.2.2.1 (some (Q, (ckAll a b c.s ws ar st v).2)) (pcells A (.pointer (some ⟨L, 0, none⟩)) (ckAll a b c.s ws ar st v).1.2.2.2 rs (.pointer (some ⟨Q, 0, none⟩))) LA rl := by
  obtain ⟨kind, n, s, la, lcap, l, ta, tcap, t⟩ := c
  simp only at hs hk ⊢
  subst hk
  obtain ⟨w1, hw1⟩ : ∃ z, z = w.alloc (.cells #[.int .i64 1, .int .i64 n, .string s, .slice la l.length lcap, .slice ta t.length tcap] 31) := ⟨_, rfl⟩
  obtain ⟨X, hX⟩ : ∃ z, z = w.heap.size := ⟨_, rfl⟩
  have hb1 : Below w.heap.size w w1 := by rw [hw1]; exact Kq.below_alloc _ _
  have hx1 : LaC w1 X ⟨1, n, s, la, lcap, l, ta, tcap, t⟩ := by unfold LaC; rw [hw1, hX]; exact Kq.blk_new _ _ _ _
  have I1 : Hid (DoI W w1.drew A a b N bufD ws ar st (some (L, v)) bufR ws ar st (some (Q, v)) (.pointer (some ⟨L, 0, none⟩)) e rs (.pointer (some ⟨Q, 0, none⟩)) LA rl X ⟨1, n, s, la, lcap, l, ta, tcap, t⟩) := Lib.hid ((⟨h.below hb1, hx1⟩ : DoI W w1 A a b N bufD ws ar st (some (L, v)) bufR ws ar st (some (Q, v)) (.pointer (some ⟨L, 0, none⟩)) e rs (.pointer (some ⟨Q, 0, none⟩)) LA rl X ⟨1, n, s, la, lcap, l, ta, tcap, t⟩).below (Below.refl _ _).drew)
  have p1 := h.c1
  have p5 := h.c5
  have hPl : A.P < w.heap.size := Kq.blk_lt h.p
  have hPn : A.P ≠ w.heap.size := by omega
  have HW1 := Lib.hid (And.intro hw1 hX)
  have hs3 : segN b ≤ 2500 := by have := hz.b1; unfold segN; omega
  have HH := Lib.hid (And.intro ho (And.intro hz (And.intro hb (And.intro hv (And.intro hK (And.intro hN (And.intro hs (And.intro (show v.used ≤ 3000 from Nat.le_trans hv.used (by omega)) (show v.cnt ≤ 1000000 by have := hv.cnt; have := hv.used; omega)))))))))
  have HOK := Lib.hid (ckAll_ok (s := s) ho hz hv)
  clear h hw1 hX hb1 hx1 ho hz hb hv hK hN hs hs3
  unfold ActW.val
  simp only
  go_enter Tryz.func10, Tryz.ntmps10
  go_wp2_with fail
  rw [← HW1.out.1, ← HW1.out.2]
  clear p1 p5 hPl hPn
  obtain ⟨c, hcc⟩ : ∃ c : ActW, c = ⟨1, n, s, la, lcap, l, ta, tcap, t⟩ := ⟨_, rfl⟩
  have HCS : Hid (c.s = s) := Lib.hid (by rw [hcc])
  rw [← hcc] at I1
  clear hcc
  refine wp_region_held_drew (S := fun w' => DoC w' A X (.pointer (some ⟨L, 0, none⟩)) (.pointer (some ⟨Q, 0, none⟩)) s) (by kernel_rfl) (HCS.out ▸ I1.out.doc) (fun hS0 => ?_)
  generalize w1.drew = z1 at *
  unfold DoC at hS0
  dsimp only [DoC]
  refine wpAnyH_take (i := 0) (v := ?_) rfl (by kernel_rfl) (by kernel_rfl) (by kernel_rfl) (fun _ _ _ h => h) (Or.inl ⟨by kernel_rfl, ?_⟩) (by assumption) ?_
  rotate_left
  · intro w hSw; (try dsimp only at hSw); go_simp; (try with_reducible rfl)
  refine wpAnyH_take (i := 1) (v := ?_) rfl (by kernel_rfl) (by kernel_rfl) (by kernel_rfl) (fun _ _ _ h => h) (Or.inl ⟨by kernel_rfl, ?_⟩) (by assumption) ?_
  rotate_left
  · intro w hSw; (try dsimp only at hSw); go_simp; (try with_reducible rfl)
  refine wpAnyH_take (i := 2) (v := ?_) rfl (by kernel_rfl) (by kernel_rfl) (by kernel_rfl) (fun _ _ _ h => h) (Or.inl ⟨by kernel_rfl, ?_⟩) (by assumption) ?_
  rotate_left
  · intro w hSw; (try dsimp only at hSw); go_simp; (try with_reducible rfl)
  refine wpAnyH_take (i := 3) (v := ?_) rfl (by kernel_rfl) (by kernel_rfl) (by kernel_rfl) (fun _ _ _ h => h) (Or.inl ⟨by kernel_rfl, ?_⟩) (by assumption) ?_
  rotate_left
  · intro w hSw; (try dsimp only at hSw); go_simp; (try with_reducible rfl)
  refine wpAnyH_take (i := 4) (v := ?_) rfl (by kernel_rfl) (by kernel_rfl) (by kernel_rfl) (fun _ _ _ h => h) (Or.inl ⟨by kernel_rfl, ?_⟩) (by assumption) ?_
  rotate_left
  · intro w hSw; (try dsimp only at hSw); go_simp; (try with_reducible rfl)
  refine wpAnyH_take (i := 5) (v := ?_) rfl (by kernel_rfl) (by kernel_rfl) (by kernel_rfl) (fun _ _ _ h => h) (Or.inl ⟨by kernel_rfl, ?_⟩) (by assumption) ?_
  rotate_left
  · intro w hSw; (try dsimp only at hSw); go_simp; (try with_reducible rfl)
  refine wpAnyH_ready (rs := [6]) (by kernel_rfl) (by simp) ?_
  refine AllReadyH.cons rfl (fun K hK => ?_) AllReadyH.nil
  go_simp
  refine (rv_ckpt I1.out.p.rv HH.out.1 (by have := HH.out.2.2.2.2.1; omega) HH.out.2.1.n HH.out.2.1.a0 HH.out.2.1.a1 HH.out.2.2.1 HH.out.2.1.b1 HH.out.2.2.2.1.sg HH.out.2.2.2.1.slot HH.out.2.2.2.1.g s).mono ?_
  rintro x z2 ⟨rfl, hr⟩
  obtain ⟨bufR2, I2x⟩ := I1.out.stepB hr
  obtain ⟨y, hy⟩ : ∃ y, y = ckAll a b s ws ar st v := ⟨_, rfl⟩
  have HY := Lib.hid hy
  rw [← hy] at I2x HOK ⊢
  have I2 := Lib.hid I2x
  clear hS0 hr I2x
  refine hK.out _ _ (HCS.out ▸ I2.out.doc) (fun hS0 => ?_)
  clear hK K
  refine wpAnyH_take (i := 7) (v := ?_) rfl (by kernel_rfl) (by kernel_rfl) (by kernel_rfl) (fun _ _ _ h => h) (Or.inl ⟨by kernel_rfl, ?_⟩) (by assumption) ?_
  rotate_left
  · intro w hSw; (try dsimp only at hSw); go_simp; (try with_reducible rfl)
  refine wpAnyH_done (by kernel_rfl) ?_ _
  clear hS0
  go_simp
  have I2d := Lib.hid (I2.out.below (Below.refl _ _).drew)
  go_wp2_with fail
  refine wp_region_held_drew (S := fun w' => DoC w' A X (.pointer (some ⟨L, 0, none⟩)) (.pointer (some ⟨Q, 0, none⟩)) s) (by kernel_rfl) (HCS.out ▸ I2d.out.doc) (fun hS0 => ?_)
  generalize z2.drew = z3 at *
  unfold DoC at hS0
  dsimp only [DoC]
  refine wpAnyH_take (i := 0) (v := ?_) rfl (by kernel_rfl) (by kernel_rfl) (by kernel_rfl) (fun _ _ _ h => h) (Or.inl ⟨by kernel_rfl, ?_⟩) (by assumption) ?_
  rotate_left
  · intro w hSw; (try dsimp only at hSw); go_simp; (try with_reducible rfl)
  refine wpAnyH_take (i := 1) (v := ?_) rfl (by kernel_rfl) (by kernel_rfl) (by kernel_rfl) (fun _ _ _ h => h) (Or.inl ⟨by kernel_rfl, ?_⟩) (by assumption) ?_
  rotate_left
  · intro w hSw; (try dsimp only at hSw); go_simp; (try with_reducible rfl)
  refine wpAnyH_take (i := 2) (v := ?_) rfl (by kernel_rfl) (by kernel_rfl) (by kernel_rfl) (fun _ _ _ h => h) (Or.inl ⟨by kernel_rfl, ?_⟩) (by assumption) ?_
  rotate_left
  · intro w hSw; (try dsimp only at hSw); go_simp; (try with_reducible rfl)
  refine wpAnyH_take (i := 3) (v := ?_) rfl (by kernel_rfl) (by kernel_rfl) (by kernel_rfl) (fun _ _ _ h => h) (Or.inl ⟨by kernel_rfl, ?_⟩) (by assumption) ?_
  rotate_left
  · intro w hSw; (try dsimp only at hSw); go_simp; (try with_reducible rfl)
  refine wpAnyH_take (i := 4) (v := ?_) rfl (by kernel_rfl) (by kernel_rfl) (by kernel_rfl) (fun _ _ _ h => h) (Or.inl ⟨by kernel_rfl, ?_⟩) (by assumption) ?_
  rotate_left
  · intro w hSw; (try dsimp only at hSw); go_simp; (try with_reducible rfl)
  refine wpAnyH_take (i := 5) (v := ?_) rfl (by kernel_rfl) (by kernel_rfl) (by kernel_rfl) (fun _ _ _ h => h) (Or.inl ⟨by kernel_rfl, ?_⟩) (by assumption) ?_
  rotate_left
  · intro w hSw; (try dsimp only at hSw); go_simp; (try with_reducible rfl)
  refine wpAnyH_take (i := 6) (v := ?_) rfl (by kernel_rfl) (by kernel_rfl) (by kernel_rfl) (fun _ _ _ h => h) (Or.inl ⟨by kernel_rfl, ?_⟩) (by assumption) ?_
  rotate_left
  · intro w hSw; (try dsimp only at hSw); go_simp; (try with_reducible rfl)
  refine wpAnyH_ready (rs := [7]) (by kernel_rfl) (by simp) ?_
  refine AllReadyH.cons rfl (fun K hK => ?_) AllReadyH.nil
  go_simp
  refine (wl_ckpt I2d.out.p.wl HH.out.1 (by have := HH.out.2.2.2.2.1; omega) HH.out.2.1 HH.out.2.2.1 HH.out.2.2.2.1 s (by have := HH.out.2.2.2.2.2.2.1; omega)).mono ?_
  rintro x z4 ⟨rfl, hr⟩
  obtain ⟨bufD4, I4x⟩ := I2d.out.stepA hr
  rw [← hy] at I4x ⊢
  have I4 := Lib.hid I4x
  clear hS0 hr I4x hy
  refine hK.out _ _ (HCS.out ▸ I4.out.doc) (fun hS0 => ?_)
  clear hK K
  refine wpAnyH_take (i := 8) (v := ?_) rfl (by kernel_rfl) (by kernel_rfl) (by kernel_rfl) (fun _ _ _ h => h) (Or.inl ⟨by kernel_rfl, ?_⟩) (by assumption) ?_
  rotate_left
  · intro w hSw; (try dsimp only at hSw); go_simp; (try with_reducible rfl)
  refine wpAnyH_take (i := 9) (v := ?_) rfl (by kernel_rfl) (by kernel_rfl) (by kernel_rfl) (fun _ _ _ h => h) (Or.inl ⟨by kernel_rfl, ?_⟩) (by assumption) ?_
  rotate_left
  · intro w hSw; (try dsimp only at hSw); go_simp; (try with_reducible rfl)
  have f2 := I4.out.p.fz 2
  have k2 := I4.out.p.c2
  refine wpAnyH_ready (rs := [10]) (by kernel_rfl) (by simp) ?_
  refine AllReadyH.cons rfl (fun K hK => ?_) AllReadyH.nil
  go_simp
  obtain ⟨⟨ws5, ar5, st5, co⟩, v5⟩ := y
  simp only at I4 HOK ⊢
  obtain ⟨z5, hz5⟩ : ∃ z, z = z4.setCell ⟨A.P, 2, none⟩ (.int .i64 co) := ⟨_, rfl⟩
  have hk5 : Kq.Keeps (· = A.P) z4 z5 := by rw [hz5]; exact Kq.Keeps.setCell _ _ _ rfl
  have hb5 : z5.heap[A.P]? = some (.cells (pcells A (.pointer (some ⟨L, 0, none⟩)) co rs (.pointer (some ⟨Q, 0, none⟩))) 40 (0, 0)) := by rw [hz5]; exact Kq.blk_set I4.out.p.p 2 _
  have I5 := Lib.hid (I4.out.set hk5 hb5)
  rw [← hz5]
  clear hS0 hk5 hb5 hz5 f2 k2
  refine hK.out _ _ (HCS.out ▸ I5.out.doc) (fun hS0 => ?_)
  clear hK K
  refine wpAnyH_done (by kernel_rfl) ?_ _
  clear hS0
  go_simp
  have P5d := Lib.hid I5.out.p.drew
  go_wp2_with fail
  refine wp_region_held_drew (S := fun w' => OnC w' A) (by kernel_rfl) P5d.out.onc (fun hS0 => ?_)
  unfold OnC at hS0
  dsimp only [OnC]
  refine wpAnyH_take (i := 0) (v := ?_) rfl (by kernel_rfl) (by kernel_rfl) (by kernel_rfl) (fun _ _ _ h => h) (Or.inl ⟨by kernel_rfl, ?_⟩) (by assumption) ?_
  rotate_left
  · intro w hSw; (try dsimp only at hSw); go_simp; (try with_reducible rfl)
  refine wpAnyH_take (i := 1) (v := ?_) rfl (by kernel_rfl) (by kernel_rfl) (by kernel_rfl) (fun _ _ _ h => h) (Or.inl ⟨by kernel_rfl, ?_⟩) (by assumption) ?_
  rotate_left
  · intro w hSw; (try dsimp only at hSw); go_simp; (try with_reducible rfl)
  refine wpAnyH_take (i := 2) (v := ?_) rfl (by kernel_rfl) (by kernel_rfl) (by kernel_rfl) (fun _ _ _ h => h) (Or.inl ⟨by kernel_rfl, ?_⟩) (by assumption) ?_
  rotate_left
  · intro w hSw; (try dsimp only at hSw); go_simp; (try with_reducible rfl)
  refine wpAnyH_take (i := 3) (v := ?_) rfl (by kernel_rfl) (by kernel_rfl) (by kernel_rfl) (fun _ _ _ h => h) (Or.inl ⟨by kernel_rfl, ?_⟩) (by assumption) ?_
  rotate_left
  · intro w hSw; (try dsimp only at hSw); go_simp; (try with_reducible rfl)
  refine wpAnyH_take (i := 4) (v := ?_) rfl (by kernel_rfl) (by kernel_rfl) (by kernel_rfl) (fun _ _ _ h => h) (Or.inl ⟨by kernel_rfl, ?_⟩) (by assumption) ?_
  rotate_left
  · intro w hSw; (try dsimp only at hSw); go_simp; (try with_reducible rfl)
  refine wpAnyH_take (i := 5) (v := ?_) rfl (by kernel_rfl) (by kernel_rfl) (by kernel_rfl) (fun _ _ _ h => h) (Or.inl ⟨by kernel_rfl, ?_⟩) (by assumption) ?_
  rotate_left
  · intro w hSw; (try dsimp only at hSw); go_simp; (try with_reducible rfl)
  refine wpAnyH_take (i := 6) (v := ?_) rfl (by kernel_rfl) (by kernel_rfl) (by kernel_rfl) (fun _ _ _ h => h) (Or.inl ⟨by kernel_rfl, ?_⟩) (by assumption) ?_
  rotate_left
  · intro w hSw; (try dsimp only at hSw); go_simp; (try with_reducible rfl)
  refine wpAnyH_take (i := 7) (v := ?_) rfl (by kernel_rfl) (by kernel_rfl) (by kernel_rfl) (fun _ _ _ h => h) (Or.inl ⟨by kernel_rfl, ?_⟩) (by assumption) ?_
  rotate_left
  · intro w hSw; (try dsimp only at hSw); go_simp; (try with_reducible rfl)
  refine wpAnyH_ready (rs := [8]) (by kernel_rfl) (by simp) ?_
  refine AllReadyH.cons rfl (fun K hK => ?_) AllReadyH.nil
  go_simp
  refine (rv_note (K := kb + 210) P5d.out.r (by rw [Int.toNat_natCast]; exact HOK.out.1) P5d.out.n P5d.out.mR.1 P5d.out.mR.2.1 (by have := HH.out.2.2.2.2.2.1; have := HOK.out.1.nw; omega) (by have := HH.out.2.1.a1; omega)).mono ?_
  rintro x z6 ⟨rfl, hn6, hk6⟩
  have hnn : N + ws5.length ≤ N + kb + 300 := by have := HOK.out.1.nw; omega
  have hn6' : NotS z6 A.Wh A.M (N + kb + 300) := ⟨hn6.blk, by obtain ⟨f, sz, hm⟩ := hn6.map; exact ⟨f, sz, hm.up hnn⟩, hn6.ne⟩
  have HP6 := Lib.hid (P5d.out.noteOk hn6' hk6)
  clear hS0 hn6 hk6 hn6' hnn
  refine hK.out _ _ HP6.out.onc (fun hS0 => ?_)
  clear hK K
  refine wpAnyH_done (by kernel_rfl) ?_ _
  clear hS0
  go_simp
  have q2 := HP6.out.c2
  go_wp2
  go_ret
  exact ⟨by simp, bufD4, bufR2, by rw [← HY.out]; exact HP6.out⟩
end Go.Proofs.YtbpgfhcecanikaaGreat
