import Derived.WalkSpells
import Derived.Outline
import Derived.Test.YtbpgfhcecanikaaGreatFrRSplitQ
import Derived.Test.YtbpgfhcecanikaaGreatWrFQ
import Derived.Test.YtbpgfhcecanikaaGreatWlHQ
import Derived.Test.YtbpgfhcecanikaaGreatWlOQ
import Derived.Test.YtbpgfhcecanikaaGreatWlNQ
import Derived.Test.YtbpgfhcecanikaaGreatWlKQ
namespace Go.Proofs.YtbpgfhcecanikaaGreat
open Go.RowKit
set_option linter.unusedVariables false
structure WvOk (b : Nat) (v : WalV) : Prop where
  g : v.g < M64
  sg : v.sg ≤ 1
  slot : v.slot ≤ 1
  used : v.used ≤ segN b
  cnt : v.cnt ≤ v.used
theorem nw_slot (a : Nat) (l : List ByteArray) : ∀ i, (nw a l i).2.2 < (i : Int)
  | 0 => by show (-1 : Int) < 0; decide
  | i + 1 => by
    have ih := nw_slot a l i
    unfold nw nwStep
    split
    · show (i : Int) < _; omega
    · omega
theorem scanF_at (a g : Nat) (s : ByteArray) : ∀ f x u, u * a ≤ s.size → (scanF a g s f x u).2 * a ≤ s.size ∧ (scanF a g s f x u).1.length + u ≤ (scanF a g s f x u).2 := by
  intro f
  induction f with
  | zero => intro x u h; exact ⟨h, by show 0 + u ≤ u; omega⟩
  | succ f ih =>
    intro x u h
    rw [scanF]
    split
    · rename_i hr
      obtain ⟨h1, h2⟩ := recOk_in hr
      obtain ⟨h3, h4⟩ := ih (x + 1) _ h2
      refine ⟨h3, ?_⟩
      simp only [List.length_cons]
      omega
    · exact ⟨h, by show 0 + u ≤ u; omega⟩
theorem opR_ok {a b K : Nat} {ws : List (Int × ByteArray)} {ar : Nat} {st : List Nat} (h : StOk a b K ws ar st) (ha : 64 ≤ a) : (opR a b ws ar st).2 ≤ segN b ∧ (opR a b ws ar st).1.length ≤ (opR a b ws ar st).2 := by
  have h1 : StOk a b (K + 1) (opF a b ws ar st).1 (opF a b ws ar st).2.1 (opF a b ws ar st).2.2.1 := by
    unfold opF
    split
    · unfold fdF
      split
      · exact layF_ok a b [hdPut a 1 0] 1 K _ _ _ (flF_ok h)
      · exact (flF_ok h).up (by omega)
    · exact (flF_ok h).up (by omega)
  have hz : (segT a b (opF a b ws ar st).1 (opF a b ws ar st).2.2.1 (opV0 a b ws ar st).sg).size ≤ segN b * a := by
    unfold segT
    rw [← nl_length, nl_txt _ (textF_lt _ _)]
    exact textF_length h1 _ _
  unfold opR scanAll
  split
  · rw [Int.toNat_natCast]
    obtain ⟨h3, h4⟩ := scanF_at a (opV0 a b ws ar st).g (segT a b (opF a b ws ar st).1 (opF a b ws ar st).2.2.1 (opV0 a b ws ar st).sg) ((segT a b (opF a b ws ar st).1 (opF a b ws ar st).2.2.1 (opV0 a b ws ar st).sg).size + 1) 0 0 (by omega)
    exact ⟨Nat.le_of_mul_le_mul_right (Nat.le_trans h3 hz) (by omega), by omega⟩
  · exact ⟨Nat.zero_le _, Nat.le_refl _⟩
theorem opV_ok {a b K : Nat} {ws : List (Int × ByteArray)} {ar : Nat} {st : List Nat} (h : StOk a b K ws ar st) (ha : 64 ≤ a) : WvOk b (opV a b ws ar st) := by
  obtain ⟨h1, h2⟩ := opR_ok h ha
  obtain ⟨f1, f2⟩ := fdV_fit a b (flF a ws ar st).1 (flF a ws ar st).2.1 (flF a ws ar st).2.2.1 wal0 (by show 0 < M64; decide) (Nat.zero_le _)
  refine ⟨f1, f2, ?_, h1, h2⟩
  show (fdV a b (flF a ws ar st).1 (flF a ws ar st).2.1 (flF a ws ar st).2.2.1 wal0).slot ≤ 1
  unfold fdV
  split
  · unfold headV
    split
    · exact Nat.le_refl 1
    · exact Nat.zero_le _
  · have := nw_slot a [txt (textF a b (flF a ws ar st).1 (flF a ws ar st).2.2.1 0 1), txt (textF a b (flF a ws ar st).1 (flF a ws ar st).2.2.1 1 1)] 2
    show (nwF a b (flF a ws ar st).1 (flF a ws ar st).2.2.1).2.2.toNat ≤ 1
    unfold nwF
    omega
theorem wl_append {w : World} {base B S a b R N : Nat} {buf : Value} {ws : List (Int × ByteArray)} {ar : Nat} {st : List Nat} {v : WalV} (h : WlS w base B S a b R buf ws ar st v) (ho : StOk a b N ws ar st) (hN : N + 220 ≤ 1000000) (hz : Siz a b) (hb : 4 ≤ b) (hv : WvOk b v) (s : ByteArray) :
    Calls Tryz.prog 26 #[.pointer (some ⟨R, 0, none⟩), .string s] w fun x w' => x = .returned (.int .i64 (apAll a b s ws ar st v).1.2.2.2) ∧ WoP w base B S a b R buf (apAll a b s ws ar st v).1.1 (apAll a b s ws ar st v).1.2.1 (apAll a b s ws ar st v).1.2.2.1 (apAll a b s ws ar st v).2 w' := by
  have hs3 : segN b ≤ 2500 := by have := hz.b1; unfold segN; omega
  have hu : v.used ≤ 3000 := Nat.le_trans hv.used (by omega)
  have hcn : v.cnt ≤ 1000000 := by have := hv.cnt; omega
  by_cases h1 : v.broken = true
  · have e : apAll a b s ws ar st v = ((ws, ar, st, 14), v) := if_pos h1
    rw [e]
    exact wl_append_broken h ho hN hz.n hz.a0 hz.a1 hb hz.b1 hv.sg hv.g hu hcn s h1
  · have h1' : v.broken = false := by simpa using h1
    by_cases h2 : v.ready = false
    · have e : apAll a b s ws ar st v = ((ws, ar, st, 15), v) := by unfold apAll; rw [if_neg h1, if_pos h2]
      rw [e]
      exact wl_append_order h ho hN hz.n hz.a0 hz.a1 hb hz.b1 hv.sg hv.g hu hcn s h1' h2
    · have h2' : v.ready = true := by simpa using h2
      by_cases h3 : s.size ≤ 4096
      · by_cases h4 : segN b < v.used + (frSplit (a : Int) v.g v.cnt s).1.length
        · have e : apAll a b s ws ar st v = ((ws, ar, st, 2), v) := by unfold apAll; rw [if_neg h1, if_neg h2, if_neg (by omega), if_pos h4]
          rw [e]
          exact wl_append_full h ho hN hz.n hz.a0 hz.a1 hb hz.b1 hv.sg hv.g hu hcn s h1' h2' h3 h4
        · have e : apAll a b s ws ar st v = (apF a b v.g v.sg v.used v.cnt s ws ar st, brokenV (apV v (frSplit (a : Int) v.g v.cnt s).1.length (apF a b v.g v.sg v.used v.cnt s ws ar st).2.2.2) (apF a b v.g v.sg v.used v.cnt s ws ar st).2.2.2) := by unfold apAll; rw [if_neg h1, if_neg h2, if_neg (by omega), if_neg h4]
          rw [e]
          exact wl_append_go h ho hN hz.n hz.a0 hz.a1 hb hz.b1 hv.sg hv.g hu hcn s h1' h2' h3 h4
      · have e : apAll a b s ws ar st v = ((ws, ar, st, 1), v) := by unfold apAll; rw [if_neg h1, if_neg h2, if_pos h3]
        rw [e]
        exact wl_append_range h ho hN hz.n hz.a0 hz.a1 hb hz.b1 hv.sg hv.g hu hcn s h1' h2' h3
theorem wl_ckpt {w : World} {base B S a b R N : Nat} {buf : Value} {ws : List (Int × ByteArray)} {ar : Nat} {st : List Nat} {v : WalV} (h : WlS w base B S a b R buf ws ar st v) (ho : StOk a b N ws ar st) (hN : N + 420 ≤ 1000000) (hz : Siz a b) (hb : 4 ≤ b) (hv : WvOk b v) (s : ByteArray) (hsz : s.size ≤ 1000000) :
    Calls Tryz.prog 25 #[.pointer (some ⟨R, 0, none⟩), .string s] w fun x w' => x = .returned (.int .i64 (ckAll a b s ws ar st v).1.2.2.2) ∧ WoP w base B S a b R buf (ckAll a b s ws ar st v).1.1 (ckAll a b s ws ar st v).1.2.1 (ckAll a b s ws ar st v).1.2.2.1 (ckAll a b s ws ar st v).2 w' := by
  by_cases h1 : v.broken = true
  · have e : ckAll a b s ws ar st v = ((ws, ar, st, 14), v) := if_pos h1
    rw [e]
    exact wl_ckpt_broken h ho hN hz.n hz.a0 hz.a1 hb hz.b1 hv.sg hv.slot hv.g s hsz h1
  · have h1' : v.broken = false := by simpa using h1
    by_cases h3 : s.size ≤ 4096
    · by_cases h4 : segN b < nParts a s.size
      · have e : ckAll a b s ws ar st v = ((ws, ar, st, 2), v) := by unfold ckAll; rw [if_neg h1, if_neg (by omega), if_pos h4]
        rw [e]
        exact wl_ckpt_full h ho hN hz.n hz.a0 hz.a1 hb hz.b1 hv.sg hv.slot hv.g s hsz h1' h3 h4
      · by_cases h5 : v.g + 1 = M64
        · have e : ckAll a b s ws ar st v = ((ws, ar, st, 12), v) := by unfold ckAll; rw [if_neg h1, if_neg (by omega), if_neg h4, if_pos h5]
          rw [e]
          exact wl_ckpt_over h ho hN hz.n hz.a0 hz.a1 hb hz.b1 hv.sg hv.slot hv.g s hsz h1' h3 h4 h5
        · have e : ckAll a b s ws ar st v = (ckF a b (v.g + 1) (1 - v.sg) v.slot s ws ar st, brokenV (ckV v (v.g + 1) (1 - v.sg) (nParts a s.size) (ckF a b (v.g + 1) (1 - v.sg) v.slot s ws ar st).2.2.2) (ckF a b (v.g + 1) (1 - v.sg) v.slot s ws ar st).2.2.2) := by unfold ckAll; rw [if_neg h1, if_neg (by omega), if_neg h4, if_neg h5]
          rw [e]
          exact wl_ckpt_go h ho hN hz.n hz.a0 hz.a1 hb hz.b1 hv.sg hv.slot hv.g s hsz h1' h3 h4 h5
    · have e : ckAll a b s ws ar st v = ((ws, ar, st, 1), v) := by unfold ckAll; rw [if_neg h1, if_pos h3]
      rw [e]
      exact wl_ckpt_range h ho hN hz.n hz.a0 hz.a1 hb hz.b1 hv.sg hv.slot hv.g s hsz h1' h3
theorem nParts_pos (a n : Nat) : 1 ≤ nParts a n := by unfold nParts; omega
theorem apAll_ok {a b N : Nat} {s : ByteArray} {ws : List (Int × ByteArray)} {ar : Nat} {st : List Nat} {v : WalV} (ho : StOk a b N ws ar st) (hz : Siz a b) (hv : WvOk b v) : StOk a b (N + 200) (apAll a b s ws ar st v).1.1 (apAll a b s ws ar st v).1.2.1 (apAll a b s ws ar st v).1.2.2.1 ∧ WvOk b (apAll a b s ws ar st v).2 := by
  unfold apAll
  split
  · exact ⟨ho.up (by omega), hv⟩
  · split
    · exact ⟨ho.up (by omega), hv⟩
    · split
      · exact ⟨ho.up (by omega), hv⟩
      · rename_i h3
        split
        · exact ⟨ho.up (by omega), hv⟩
        · rename_i h4
          refine ⟨(layF_ok a b (frSplit (a : Int) v.g v.cnt s).1 _ N ws ar st ho).up (by have := (split_sizes a v.g v.cnt s hz.a0).1; omega), ?_⟩
          have hl := split_len a v.g v.cnt s hz.a0 hz.a1 (by omega)
          have hp := nParts_pos a s.size
          have hcn := hv.cnt
          unfold brokenV apV
          split
          · exact ⟨hv.g, hv.sg, hv.slot, by show v.used + _ ≤ _; omega, by show v.cnt + 1 ≤ v.used + _; omega⟩
          · exact ⟨hv.g, hv.sg, hv.slot, hv.used, hv.cnt⟩
theorem ckAll_ok {a b N : Nat} {s : ByteArray} {ws : List (Int × ByteArray)} {ar : Nat} {st : List Nat} {v : WalV} (ho : StOk a b N ws ar st) (hz : Siz a b) (hv : WvOk b v) : StOk a b (N + 210) (ckAll a b s ws ar st v).1.1 (ckAll a b s ws ar st v).1.2.1 (ckAll a b s ws ar st v).1.2.2.1 ∧ WvOk b (ckAll a b s ws ar st v).2 := by
  unfold ckAll
  split
  · exact ⟨ho.up (by omega), hv⟩
  · split
    · exact ⟨ho.up (by omega), hv⟩
    · split
      · exact ⟨ho.up (by omega), hv⟩
      · rename_i h3
        split
        · exact ⟨ho.up (by omega), hv⟩
        · rename_i h4
          have h1 := layF_ok a b (frSplit (a : Int) (v.g + 1) 0 s).1 (2 + (1 - v.sg) * segN b) N ws ar st ho
          have hl := (split_sizes a (v.g + 1) 0 s hz.a0).1
          have hp := nParts_pos a s.size
          refine ⟨?_, ?_⟩
          · show StOk a b (N + 210) (ckF a b (v.g + 1) (1 - v.sg) v.slot s ws ar st).1 (ckF a b (v.g + 1) (1 - v.sg) v.slot s ws ar st).2.1 (ckF a b (v.g + 1) (1 - v.sg) v.slot s ws ar st).2.2.1
            unfold ckF
            split
            · exact (layF_ok a b [hdPut a (v.g + 1) (1 - v.sg)] (1 - v.slot) _ _ _ _ h1).up (by simp; omega)
            · exact h1.up (by omega)
          · unfold brokenV ckV
            have hg := hv.g
            split
            · exact ⟨by show v.g + 1 < M64; omega, by show 1 - v.sg ≤ 1; omega, by show 1 - v.slot ≤ 1; omega, by show nParts a s.size ≤ _; omega, by show 1 ≤ nParts a s.size; exact hp⟩
            · exact ⟨hv.g, hv.sg, hv.slot, hv.used, hv.cnt⟩
end Go.Proofs.YtbpgfhcecanikaaGreat
