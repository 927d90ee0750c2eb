/- Contracts of wire's reader, more: numbers, texts, what is left, the end. Condition: lengths are ints. -/
import Derived.Test.YtjilbcefikbihaaWireRdQ
import Derived.Test.YtjilbcefikbihaaScMQ
namespace Go.Proofs.Ytjilbcefikbihaa
open Go.RowKit
set_option linter.unusedVariables false
def WholePost (w : World) (B : Nat) (e : Int) (s : ByteArray) (n : Int) (x : Ending) (w' : World) : Prop :=
  x = .returned (.int .u64 ((WireM.val (nl (WireM.raw e s n).1) : Nat) : Int)) ∧ Rd w' B (WireM.raw e s n).2.1 (WireM.raw e s n).2.2 ∧ Kq.Keeps (· = B) w w'
theorem raw_size (e : Int) (s : ByteArray) (k : Nat) : (WireM.raw e s k).1.size ≤ k := by
  unfold WireM.raw
  split
  · exact Nat.zero_le _
  · split
    · simp; omega
    · exact Nat.zero_le _
theorem val_snoc (l : List Nat) (b : Nat) : WireM.val (l ++ [b]) = WireM.val l * 256 + b := by simp [WireM.val]
theorem or_byte (v : Nat) (b : UInt8) (hv : v < 256 ^ 7) : bits .or .u64 (IntKind.u64.wrap ((v : Int) * 256)) (IntKind.u64.wrap ((b.toNat : Nat) : Int)) = ((v * 256 + b.toNat : Nat) : Int) := by
  have hb := b.toNat_lt
  have e1 : IntKind.u64.wrap ((v : Int) * 256) = ((v * 256 : Nat) : Int) := by rw [IntKind.wrap_u64]; omega
  have e2 : IntKind.u64.wrap ((b.toNat : Nat) : Int) = ((b.toNat : Nat) : Int) := by rw [IntKind.wrap_u64]; omega
  rw [e1, e2, u64_or_nat _ _ (by omega) (by omega), nat_join 8 (v * 256) b.toNat (by omega) hb]
theorem val_succ (t : ByteArray) (m : Nat) (h : m < t.size) : WireM.val ((nl t).take (m + 1)) = WireM.val ((nl t).take m) * 256 + t[m].toNat := by
  rw [take_succ_nl t m h, val_snoc]
theorem val_take_lt (t : ByteArray) (m : Nat) (h : m < t.size) (h8 : t.size ≤ 8) : WireM.val ((nl t).take m) < 256 ^ 7 := by
  refine Nat.lt_of_lt_of_le (WireM.val_lt _ (fun b hb => nl_lt t b (List.mem_of_mem_take hb))) (Nat.pow_le_pow_right (by decide) ?_)
  rw [List.length_take]; omega
set_option maxRecDepth 100000 in
set_option maxHeartbeats 400000 in
theorem rd_whole (B : Nat) (e : Int) (s : ByteArray) (k : Nat) (w : World) (h : Rd w B e s) (hs : s.size ≤ maxLen) (hk : k ≤ 8) :
    Calls Try.prog 53 #[.pointer (some ⟨B, 0, none⟩), .int .i64 (k : Int)] w (WholePost w B e s k) := by
  go_enter Try.func53, Try.ntmps53
  go_wp2_with fail
  refine (rd_raw B e s k _ h hs).mono ?_
  rintro x w2 ⟨rfl, R2, K2⟩
  have hsz : (WireM.raw e s k).1.size ≤ 8 := Nat.le_trans (raw_size e s k) hk
  have HE : Hid (WholePost w B e s k (.returned (.int .u64 ((WireM.val (nl (WireM.raw e s k).1) : Nat) : Int))) w2) := ⟨rfl, R2, K2⟩
  clear R2 K2
  generalize (WireM.raw e s k).1 = t at *
  go_wp2
  go_loop [6, 13] (fun y j => ∃ m : Nat, m ≤ t.size ∧ j = .int .i64 m ∧ y = .int .u64 (WireM.val ((nl t).take m) : Nat)) (fun _ j => t.size - (intOf j).toNat)
  case atStart => exact ⟨0, by omega, rfl, rfl⟩
  case round =>
    obtain ⟨m, hm, rfl, rfl⟩ := hrel
    by_cases hlt : m < t.size
    · have hS := Lib.hid (val_succ t m hlt)
      have hv := val_take_lt t m hlt hsz
      generalize WireM.val ((nl t).take m) = v at *
      have ho := or_byte v t[m] hv
      clear hv
      go_wp2
      go_round
      case rel => exact ⟨m + 1, by omega, by go_num, by rw [hS.out, Int.natCast_add, Int.natCast_mul]; rfl⟩
      case measure => simp [intOf]; omega
    · have hm' : m = t.size := Nat.le_antisymm hm (Nat.not_lt.1 hlt)
      subst hm'
      have hT : (nl t).take t.size = nl t := List.take_of_length_le (by rw [nl_length]; exact Nat.le_refl _)
      rw [hT]
      go_wp2
      go_ret
      exact HE
theorem whole_lt (e : Int) (s : ByteArray) (k : Nat) : WireM.val (nl (WireM.raw e s k).1) < 256 ^ k :=
  Nat.lt_of_lt_of_le (WireM.val_lt _ (nl_lt _)) (Nat.pow_le_pow_right (by decide) (by rw [nl_length]; exact raw_size e s k))
theorem u64_int (v : Nat) (h : v < 65536) : IntKind.i64.wrap (v : Int) = (v : Int) := IntWalk.i64_in _ (by omega)
def BytePost (w : World) (B : Nat) (e : Int) (s : ByteArray) (n : Int) (x : Ending) (w' : World) : Prop :=
  x = .returned (.int .i64 ((WireM.val (nl (WireM.raw e s n).1) : Nat) : Int)) ∧ Rd w' B (WireM.raw e s n).2.1 (WireM.raw e s n).2.2 ∧ Kq.Keeps (· = B) w w'
set_option maxRecDepth 100000 in
theorem rd_byte (B : Nat) (e : Int) (s : ByteArray) (w : World) (h : Rd w B e s) (hs : s.size ≤ maxLen) :
    Calls Try.prog 32 #[.pointer (some ⟨B, 0, none⟩)] w (BytePost w B e s (1 : Nat)) := by
  have hw := u64_int _ (Nat.lt_trans (whole_lt e s 1) (by decide))
  go_enter Try.func32, Try.ntmps32
  go_wp2_with fail
  refine (rd_whole B e s 1 _ h hs (by omega)).mono ?_
  rintro x w2 ⟨rfl, R2, K2⟩
  have HP : ∀ x, x = .returned (.int .i64 ((WireM.val (nl (WireM.raw e s ((1 : Nat) : Int)).1) : Nat) : Int)) → BytePost w B e s ((1 : Nat) : Int) x w2 := fun x hx => ⟨hx, R2, K2⟩
  have HP := Lib.hid HP
  clear R2 K2
  generalize WireM.val (nl (WireM.raw e s ((1 : Nat) : Int)).1) = v at *
  go_wp2
  go_ret
  exact HP.out _ rfl
set_option maxRecDepth 100000 in
theorem rd_number (B : Nat) (e : Int) (s : ByteArray) (w : World) (h : Rd w B e s) (hs : s.size ≤ maxLen) :
    Calls Try.prog 34 #[.pointer (some ⟨B, 0, none⟩)] w (WholePost w B e s (8 : Nat)) := by
  go_enter Try.func34, Try.ntmps34
  go_wp2_with fail
  refine (rd_whole B e s 8 _ h hs (by omega)).mono ?_
  rintro x w2 ⟨rfl, R2, K2⟩
  go_wp2
  go_ret
  exact ⟨rfl, R2, K2⟩
def TextPost (w : World) (B : Nat) (e : Int) (s : ByteArray) (x : Ending) (w' : World) : Prop :=
  RawPost w B (WireM.raw e s (2 : Nat)).2.1 (WireM.raw e s (2 : Nat)).2.2 ((WireM.val (nl (WireM.raw e s (2 : Nat)).1) : Nat) : Int) x w'
theorem raw_left_size (e : Int) (s : ByteArray) (n : Int) : (WireM.raw e s n).2.2.size ≤ s.size := by
  unfold WireM.raw
  split
  · exact Nat.le_refl _
  · split
    · simp
    · exact Nat.le_refl _
set_option maxRecDepth 100000 in
theorem rd_text (B : Nat) (e : Int) (s : ByteArray) (w : World) (h : Rd w B e s) (hs : s.size ≤ maxLen) :
    Calls Try.prog 71 #[.pointer (some ⟨B, 0, none⟩)] w (TextPost w B e s) := by
  have hw := u64_int _ (Nat.lt_of_lt_of_le (whole_lt e s 2) (by decide))
  have hl := Nat.le_trans (raw_left_size e s ((2 : Nat) : Int)) hs
  have HT : ∀ x w', RawPost w B (WireM.raw e s (2 : Nat)).2.1 (WireM.raw e s (2 : Nat)).2.2 ((WireM.val (nl (WireM.raw e s (2 : Nat)).1) : Nat) : Int) x w' → TextPost w B e s x w' := fun _ _ h => h
  have HT := Lib.hid HT
  go_enter Try.func71, Try.ntmps71
  go_wp2_with fail
  refine (rd_whole B e s 2 _ h hs (by omega)).mono ?_
  rintro x w2 ⟨rfl, R2, K2⟩
  generalize (WireM.raw e s ((2 : Nat) : Int)).2.1 = e2 at *
  generalize (WireM.raw e s ((2 : Nat) : Int)).2.2 = s2 at *
  generalize WireM.val (nl (WireM.raw e s ((2 : Nat) : Int)).1) = v at *
  go_wp2_with fail
  refine (rd_raw B e2 s2 v _ R2 hl).mono ?_
  rintro x w3 ⟨rfl, R3, K3⟩
  go_wp2
  go_ret
  exact HT.out _ _ ⟨rfl, R3, K2.trans K3⟩
def leftOf (e : Int) (s : ByteArray) : Nat := if e = 0 then s.size else 0
def endOf (e : Int) (s : ByteArray) : Int := if e = 0 then (if s.size = 0 then 0 else 7) else e
set_option maxRecDepth 100000 in
theorem rd_left (B : Nat) (e : Int) (s : ByteArray) (w : World) (h : Rd w B e s) :
    Calls Try.prog 37 #[.pointer (some ⟨B, 0, none⟩)] w fun x w' => x = .returned (.int .i64 ((leftOf e s : Nat) : Int)) ∧ w = w' := by
  have c1 := h.c1
  by_cases he : e = 0
  · have HL : Hid (leftOf e s = s.size) := Lib.hid (if_pos he)
    subst he
    go_enter Try.func37, Try.ntmps37
    go_wp2_with fail
    refine (mem_err B 0 _ h.c0).mono ?_
    rintro x w3 ⟨rfl, rfl⟩
    go_wp2
    go_ret
    exact ⟨by rw [HL.out]; rfl, rfl⟩
  · have HL : Hid (leftOf e s = 0) := Lib.hid (if_neg he)
    have hne' : (e != 0) = true := by simpa using he
    clear he
    go_enter Try.func37, Try.ntmps37
    go_wp2_with fail
    refine (mem_err B e _ h.c0).mono ?_
    rintro x w3 ⟨rfl, rfl⟩
    go_wp2
    go_ret
    exact ⟨by rw [HL.out]; rfl, rfl⟩
end Go.Proofs.Ytjilbcefikbihaa
