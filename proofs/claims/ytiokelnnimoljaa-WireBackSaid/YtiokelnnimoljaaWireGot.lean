/- wire's reader over what was written: one contract for each kind of call. Condition: sizes. -/
import Derived.Test.YtiokelnnimoljaaWireB
namespace Go.Proofs.Ytiokelnnimoljaa
open Go.RowKit
set_option linter.unusedVariables false
def GotInt (k : IntKind) (L : List Nat) (cut q B : Nat) (w : World) (v : Int) (x : Ending) (w' : World) : Prop :=
  ∃ u e' r', x = .returned (.int k u) ∧ Rd w' B e' r' ∧ r'.size ≤ maxLen ∧ Mid L cut q e' r' ∧ Kq.Keeps (· = B) w w' ∧ (e' = 0 → u = v)
def GotText (L : List Nat) (cut q B : Nat) (w : World) (v : ByteArray) (x : Ending) (w' : World) : Prop :=
  ∃ u e' r', x = .returned (.string u) ∧ Rd w' B e' r' ∧ r'.size ≤ maxLen ∧ Mid L cut q e' r' ∧ Kq.Keeps (· = B) w w' ∧ (e' = 0 → u = v)
theorem prefix_two {a b X : List Nat} (h : a ++ b <+: X) : a <+: X ∧ b <+: X.drop a.length := by
  obtain ⟨t, rfl⟩ := h
  refine ⟨⟨b ++ t, by simp⟩, ⟨t, ?_⟩⟩
  rw [List.append_assoc, List.drop_left]
section
variable (L : List Nat) (cut : Nat) (hc : cut ≤ L.length) (B : Nat) (e : Int) (r : ByteArray) (p : Nat) (w : World) (h : Rd w B e r) (hs : r.size ≤ maxLen) (hm : Mid L cut p e r)
include hc h hs hm
theorem got_byte (c : Int) (hb : 0 ≤ c ∧ c ≤ 255) (hp : [c.toNat] <+: L.drop p) :
    Calls Try.prog 14 #[.pointer (some ⟨B, 0, none⟩)] w (GotInt .i64 L cut (p + 1) B w c) :=
  (rd_byte B e r w h hs).mono fun x w' hx => by
    obtain ⟨hm1, hv⟩ := hm.read hc _ hp
    obtain ⟨hx1, hx2, hx3⟩ := hx
    refine ⟨_, _, _, hx1, hx2, Nat.le_trans (raw_left_size e r _) hs, hm1, hx3, fun h0 => ?_⟩
    have h1 : nl (WireM.raw e r ((1 : Nat) : Int)).1 = [c.toNat] := hv h0
    rw [h1, val_one]
    omega
theorem got_number (c : Int) (hb : 0 ≤ c ∧ c < 18446744073709551616) (hp : num8 c.toNat <+: L.drop p) :
    Calls Try.prog 15 #[.pointer (some ⟨B, 0, none⟩)] w (GotInt .u64 L cut (p + 8) B w c) :=
  (rd_number B e r w h hs).mono fun x w' hx => by
    obtain ⟨hm1, hv⟩ := hm.read hc _ hp
    obtain ⟨hx1, hx2, hx3⟩ := hx
    refine ⟨_, _, _, hx1, hx2, Nat.le_trans (raw_left_size e r _) hs, hm1, hx3, fun h0 => ?_⟩
    have h1 : nl (WireM.raw e r ((8 : Nat) : Int)).1 = num8 c.toNat := hv h0
    rw [h1, val_num8 _ (by unfold M64; omega)]
    omega
theorem got_raw (t : ByteArray) (hp : nl t <+: L.drop p) :
    Calls Try.prog 17 #[.pointer (some ⟨B, 0, none⟩), .int .i64 ((t.size : Nat) : Int)] w (GotText L cut (p + t.size) B w t) :=
  (rd_raw B e r _ w h hs).mono fun x w' hx => by
    obtain ⟨hm1, hv⟩ := hm.read hc _ hp
    rw [nl_length] at hm1 hv
    obtain ⟨hx1, hx2, hx3⟩ := hx
    exact ⟨_, _, _, hx1, hx2, Nat.le_trans (raw_left_size e r _) hs, hm1, hx3, fun h0 => nl_inj (hv h0)⟩
theorem got_text (t : ByteArray) (hp : hi2 t.size ++ nl t <+: L.drop p) :
    Calls Try.prog 16 #[.pointer (some ⟨B, 0, none⟩)] w (GotText L cut (p + (2 + t.size)) B w t) :=
  (rd_text B e r w h hs).mono fun x w' hx => by
    obtain ⟨hp1, hp2⟩ := prefix_two hp
    obtain ⟨hm1, hv⟩ := hm.read hc _ hp1
    have h2 : (hi2 t.size).length = 2 := rfl
    rw [h2] at hm1 hv hp2
    have hsz := raw_left_size e r ((2 : Nat) : Int)
    unfold TextPost at hx
    generalize (WireM.raw e r ((2 : Nat) : Int)).2.1 = e1 at *
    generalize (WireM.raw e r ((2 : Nat) : Int)).2.2 = r1 at *
    generalize (WireM.raw e r ((2 : Nat) : Int)).1 = t1 at *
    obtain ⟨hx1, hx2, hx3⟩ := hx
    by_cases he : e1 = 0
    · rw [hv he, val_hi2] at hx1 hx2
      rw [List.drop_drop] at hp2
      obtain ⟨hm2, hv2⟩ := hm1.read hc _ hp2
      rw [nl_length] at hm2 hv2
      rw [show p + (2 + t.size) = p + 2 + t.size by omega]
      exact ⟨_, _, _, hx1, hx2, Nat.le_trans (raw_left_size _ _ _) (Nat.le_trans hsz hs), hm2, hx3, fun h0 => nl_inj (hv2 h0)⟩
    · obtain ⟨hr, hm2⟩ := hm1.stuck (q := p + (2 + t.size)) he ((WireM.val (nl t1) : Nat) : Int)
      rw [hr] at hx1 hx2
      exact ⟨_, _, _, hx1, hx2, Nat.le_trans hsz hs, hm2, hx3, fun h0 => absurd h0 he⟩
end
end Go.Proofs.Ytiokelnnimoljaa
