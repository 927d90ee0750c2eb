/- Merged: WireM, WireRd, WireRd2, WireJoinsRd. Plain mathematics of wire: what a reader's calls tell. No condition. Contracts of wire's reader. Condition: lengths are ints, a reader is one that NewReader made. Contracts of wire's reader, more: numbers, texts, what is left, the end. Condition: lengths are ints. A reader of two texts, the first one read raw. No condition. -/
import Derived.Test.YtclepgpaifaneaaDoorTxt
import Derived.WalkSpells
import Derived.Test.YtclepgpaifaneaaDoorObj
namespace WireM
/-- bytes as a number, the highest first -/
def val (l : List Nat) : Nat := l.foldl (fun n b => n * 256 + b) 0
/-- so many bytes of a text ahead of which a reader stands that remembers e: what is told, what is remembered, what is left -/
def raw (e : Int) (s : ByteArray) (n : Int) : ByteArray × Int × ByteArray :=
  if n < 0 ∨ (s.size : Int) < n then (⟨#[]⟩, (if e = 0 then 6 else e), s)
  else if e = 0 then (s.extract 0 n.toNat, 0, s.extract n.toNat s.size) else (⟨#[]⟩, e, s)
theorem val_lt (l : List Nat) (hl : ∀ b ∈ l, b < 256) : val l < 256 ^ l.length := by
  suffices h : ∀ (l : List Nat) (n k : Nat), (∀ b ∈ l, b < 256) → n < 256 ^ k → l.foldl (fun n b => n * 256 + b) n < 256 ^ (k + l.length) by
    have := h l 0 0 hl (by decide)
    simpa [val] using this
  intro l
  induction l with
  | nil => intro n k _ h; simpa using h
  | cons b l ih =>
    intro n k hb h
    have h1 : n * 256 + b < 256 ^ (k + 1) := by
      have := hb b (List.mem_cons_self ..)
      rw [Nat.pow_succ]; omega
    have := ih (n * 256 + b) (k + 1) (fun c hc => hb c (List.mem_cons_of_mem _ hc)) h1
    rw [List.foldl_cons, List.length_cons]
    rwa [show k + (l.length + 1) = k + 1 + l.length by omega]
theorem raw_bad (e : Int) (s : ByteArray) (n : Int) (h : n < 0 ∨ (s.size : Int) < n) : raw e s n = (⟨#[]⟩, (if e = 0 then 6 else e), s) := by
  unfold raw; rw [if_pos h]
theorem raw_ok (s : ByteArray) (n : Nat) (h : n ≤ s.size) : raw 0 s n = (s.extract 0 n, 0, s.extract n s.size) := by
  unfold raw; rw [if_neg (by omega), if_pos rfl]; rfl
theorem raw_stuck (e : Int) (s : ByteArray) (n : Int) (h : e ≠ 0) : raw e s n = (⟨#[]⟩, e, s) := by
  unfold raw
  by_cases hb : n < 0 ∨ (s.size : Int) < n
  · rw [if_pos hb, if_neg h]
  · rw [if_neg hb, if_neg h]
end WireM
namespace Go.Proofs.YtclepgpaifaneaaDoor
open Go.RowKit
set_option linter.unusedVariables false
def Rd (w : World) (B : Nat) (e : Int) (s : ByteArray) : Prop := w.heap[B]? = some (.cells #[.int .i64 e, .string s] 59 (0, 0))
section
variable {w : World} {B : Nat} {e : Int} {s : ByteArray} (h : Rd w B e s)
include h
theorem Rd.c0 : w.cell? ⟨B, 0, none⟩ = some (.int .i64 e) := Kq.blk_cell h 0
theorem Rd.c1 : w.cell? ⟨B, 1, none⟩ = some (.string s) := Kq.blk_cell h 1
theorem Rd.f0 : w.frozen? ⟨B, 0, none⟩ = false := Kq.blk_free h 0
theorem Rd.f1 : w.frozen? ⟨B, 1, none⟩ = false := Kq.blk_free h 1
theorem Rd.set0 (f : Int) : Rd (w.setCell ⟨B, 0, none⟩ (.int .i64 f)) B f s := Kq.blk_set h 0 _
theorem Rd.set1 (t : ByteArray) : Rd (w.setCell ⟨B, 1, none⟩ (.string t)) B e t := Kq.blk_set h 1 _
theorem Rd.lt : B < w.heap.size := Kq.blk_lt h
end
set_option maxRecDepth 100000 in
theorem mem_err (B : Nat) (e : Int) (w : World) (h : w.cell? ⟨B, 0, none⟩ = some (.int .i64 e)) :
    Calls Tryd.prog 24 #[.pointer (some ⟨B, 0, none⟩)] w fun x w' => x = .returned (.int .i64 e) ∧ w = w' := by
  go_enter Tryd.func24, Tryd.ntmps24
  go_wp2
  go_ret
  exact ⟨rfl, rfl⟩
set_option maxRecDepth 100000 in
theorem mem_fail_ok (B : Nat) (f : Int) (w : World) (h : w.cell? ⟨B, 0, none⟩ = some (.int .i64 0)) (hf : w.frozen? ⟨B, 0, none⟩ = false) :
    Calls Tryd.prog 25 #[.pointer (some ⟨B, 0, none⟩), .int .i64 f] w fun x w' => x = .returned (.tuple #[]) ∧ w.setCell ⟨B, 0, none⟩ (.int .i64 f) = w' := by
  go_enter Tryd.func25, Tryd.ntmps25
  go_wp2
  go_end0
  exact ⟨rfl, rfl⟩
set_option maxRecDepth 100000 in
theorem mem_fail_no (B : Nat) (e f : Int) (w : World) (h : w.cell? ⟨B, 0, none⟩ = some (.int .i64 e)) (he : e ≠ 0) :
    Calls Tryd.prog 25 #[.pointer (some ⟨B, 0, none⟩), .int .i64 f] w fun x w' => x = .returned (.tuple #[]) ∧ w = w' := by
  have he' : (e == 0) = false := by simpa using he
  clear he
  go_enter Tryd.func25, Tryd.ntmps25
  go_wp2
  go_end0
  exact ⟨rfl, rfl⟩
theorem rd_fail (B : Nat) (e f : Int) (s : ByteArray) (w : World) (h : Rd w B e s) :
    Calls Tryd.prog 25 #[.pointer (some ⟨B, 0, none⟩), .int .i64 f] w fun x w' => x = .returned (.tuple #[]) ∧ Rd w' B (if e = 0 then f else e) s ∧ Kq.Keeps (· = B) w w' := by
  by_cases he : e = 0
  · subst he
    refine (mem_fail_ok B f w h.c0 h.f0).mono ?_
    rintro x w' ⟨rfl, rfl⟩
    exact ⟨rfl, h.set0 f, Kq.Keeps.setCell _ _ _ rfl⟩
  · refine (mem_fail_no B e f w h.c0 he).mono ?_
    rintro x w' ⟨rfl, rfl⟩
    exact ⟨rfl, by rw [if_neg he]; exact h, Kq.Keeps.refl _ _⟩
set_option maxRecDepth 100000 in
theorem rd_new (s : ByteArray) (w : World) :
    Calls Tryd.prog 9 #[.string s] w fun x w' => x = .returned (.pointer (some ⟨w.heap.size, 0, none⟩)) ∧ Rd w' w.heap.size 0 s ∧ Below w.heap.size w w' := by
  go_enter Tryd.func9, Tryd.ntmps9
  go_wp2
  go_ret
  exact ⟨rfl, Kq.blk_new _ _ _ _, Kq.below_alloc _ _⟩
/-- what Raw tells and leaves -/
def RawPost (w : World) (B : Nat) (e : Int) (s : ByteArray) (n : Int) (x : Ending) (w' : World) : Prop :=
  x = .returned (.string (WireM.raw e s n).1) ∧ Rd w' B (WireM.raw e s n).2.1 (WireM.raw e s n).2.2 ∧ Kq.Keeps (· = B) w w'
set_option maxRecDepth 100000 in
set_option maxHeartbeats 400000 in
theorem rd_raw (B : Nat) (e : Int) (s : ByteArray) (n : Int) (w : World) (h : Rd w B e s) (hs : s.size ≤ maxLen) :
    Calls Tryd.prog 10 #[.pointer (some ⟨B, 0, none⟩), .int .i64 n] w (RawPost w B e s n) := by
  have c1 := h.c1
  have H := Lib.hid h
  clear h
  have c0 := H.out.c0
  by_cases hbad : n < 0 ∨ (s.size : Int) < n
  · have HP := Lib.hid (WireM.raw_bad e s n hbad)
    have hbad' := Lib.hid hbad
    have hne : (if e = 0 then (6 : Int) else e) ≠ 0 := by split <;> omega
    obtain ⟨e1, hE⟩ : ∃ e1, (if e = 0 then (6 : Int) else e) = e1 := ⟨_, rfl⟩
    have HE := Lib.hid hE
    rw [hE] at HP hne
    clear hE hbad
    have hne' : (e1 != 0) = true := by simpa using hne
    clear hne
    by_cases h0 : n < 0
    · clear c0 c1
      go_enter Tryd.func10, Tryd.ntmps10
      go_wp2_with fail
      refine (rd_fail B e 6 s _ H.out).mono ?_
      rintro x w2 ⟨rfl, R2, K2⟩
      rw [HE.out] at R2
      go_wp2_with fail
      refine (mem_err B e1 _ R2.c0).mono ?_
      rintro x w3 ⟨rfl, rfl⟩
      go_wp2
      go_ret
      exact ⟨by rw [HP.out]; rfl, by rw [HP.out]; exact R2, K2⟩
    · have h1 : (s.size : Int) < n := hbad'.out.resolve_left h0
      have hd : decide ((s.size : Int) < n) = true := decide_eq_true h1
      go_enter Tryd.func10, Tryd.ntmps10
      go_wp2_with fail
      refine (rd_fail B e 6 s _ H.out).mono ?_
      rintro x w2 ⟨rfl, R2, K2⟩
      rw [HE.out] at R2
      go_wp2_with fail
      refine (mem_err B e1 _ R2.c0).mono ?_
      rintro x w3 ⟨rfl, rfl⟩
      go_wp2
      go_ret
      exact ⟨by rw [HP.out]; rfl, by rw [HP.out]; exact R2, K2⟩
  · obtain ⟨m, rfl⟩ := Int.eq_ofNat_of_zero_le (show 0 ≤ n by omega)
    have hm : m ≤ s.size := by omega
    have hd : decide ((s.size : Int) < (m : Int)) = false := by simp; omega
    clear hbad
    by_cases he : e = 0
    · subst he
      have HP := Lib.hid (WireM.raw_ok s m hm)
      have f1 := H.out.f1
      go_enter Tryd.func10, Tryd.ntmps10
      go_wp2_with fail
      refine (mem_err B 0 _ c0).mono ?_
      rintro x w3 ⟨rfl, rfl⟩
      go_wp2
      go_ret
      exact ⟨by rw [HP.out]; rfl, by rw [HP.out]; exact H.out.set1 _, Kq.Keeps.setCell _ _ _ rfl⟩
    · have HP := Lib.hid (WireM.raw_stuck e s m he)
      have hne' : (e != 0) = true := by simpa using he
      clear he
      go_enter Tryd.func10, Tryd.ntmps10
      go_wp2_with fail
      refine (mem_err B e _ c0).mono ?_
      rintro x w3 ⟨rfl, rfl⟩
      go_wp2
      go_ret
      exact ⟨by rw [HP.out]; rfl, by rw [HP.out]; exact H.out, Kq.Keeps.refl _ _⟩
end Go.Proofs.YtclepgpaifaneaaDoor
namespace Go.Proofs.YtclepgpaifaneaaDoor
open Go.RowKit
set_option linter.unusedVariables false
def M64 : Nat := 18446744073709551616
def WholePost (w : World) (B : Nat) (e : Int) (s : ByteArray) (n : Int) (x : Ending) (w' : World) : Prop :=
  x = .returned (.int .u64 ((WireM.val (nl (WireM.raw e s n).1) : Nat) : Int)) ∧ Rd w' B (WireM.raw e s n).2.1 (WireM.raw e s n).2.2 ∧ Kq.Keeps (· = B) w w'
theorem raw_size (e : Int) (s : ByteArray) (k : Nat) : (WireM.raw e s k).1.size ≤ k := by
  unfold WireM.raw
  split
  · exact Nat.zero_le _
  · split
    · simp; omega
    · exact Nat.zero_le _
theorem val_snoc (l : List Nat) (b : Nat) : WireM.val (l ++ [b]) = WireM.val l * 256 + b := by simp [WireM.val]
theorem or_byte (v : Nat) (b : UInt8) (hv : v < 256 ^ 7) : bits .or .u64 (IntKind.u64.wrap ((v : Int) * 256)) (IntKind.u64.wrap ((b.toNat : Nat) : Int)) = ((v * 256 + b.toNat : Nat) : Int) := by
  have hb := b.toNat_lt
  have e1 : IntKind.u64.wrap ((v : Int) * 256) = ((v * 256 : Nat) : Int) := by rw [IntKind.wrap_u64]; omega
  have e2 : IntKind.u64.wrap ((b.toNat : Nat) : Int) = ((b.toNat : Nat) : Int) := by rw [IntKind.wrap_u64]; omega
  rw [e1, e2, u64_or_nat _ _ (by omega) (by omega), nat_join 8 (v * 256) b.toNat (by omega) hb]
theorem val_succ (t : ByteArray) (m : Nat) (h : m < t.size) : WireM.val ((nl t).take (m + 1)) = WireM.val ((nl t).take m) * 256 + t[m].toNat := by
  rw [take_succ_nl t m h, val_snoc]
theorem val_take_lt (t : ByteArray) (m : Nat) (h : m < t.size) (h8 : t.size ≤ 8) : WireM.val ((nl t).take m) < 256 ^ 7 := by
  refine Nat.lt_of_lt_of_le (WireM.val_lt _ (fun b hb => nl_lt t b (List.mem_of_mem_take hb))) (Nat.pow_le_pow_right (by decide) ?_)
  rw [List.length_take]; omega
set_option maxRecDepth 100000 in
set_option maxHeartbeats 400000 in
theorem rd_whole (B : Nat) (e : Int) (s : ByteArray) (k : Nat) (w : World) (h : Rd w B e s) (hs : s.size ≤ maxLen) (hk : k ≤ 8) :
    Calls Tryd.prog 37 #[.pointer (some ⟨B, 0, none⟩), .int .i64 (k : Int)] w (WholePost w B e s k) := by
  go_enter Tryd.func37, Tryd.ntmps37
  go_wp2_with fail
  refine (rd_raw B e s k _ h hs).mono ?_
  rintro x w2 ⟨rfl, R2, K2⟩
  have hsz : (WireM.raw e s k).1.size ≤ 8 := Nat.le_trans (raw_size e s k) hk
  have HE : Hid (WholePost w B e s k (.returned (.int .u64 ((WireM.val (nl (WireM.raw e s k).1) : Nat) : Int))) w2) := ⟨rfl, R2, K2⟩
  clear R2 K2
  generalize (WireM.raw e s k).1 = t at *
  go_wp2
  go_loop [6, 13] (fun y j => ∃ m : Nat, m ≤ t.size ∧ j = .int .i64 m ∧ y = .int .u64 (WireM.val ((nl t).take m) : Nat)) (fun _ j => t.size - (intOf j).toNat)
  case atStart => exact ⟨0, by omega, rfl, rfl⟩
  case round =>
    obtain ⟨m, hm, rfl, rfl⟩ := hrel
    by_cases hlt : m < t.size
    · have hS := Lib.hid (val_succ t m hlt)
      have hv := val_take_lt t m hlt hsz
      generalize WireM.val ((nl t).take m) = v at *
      have ho := or_byte v t[m] hv
      clear hv
      go_wp2
      go_round
      case rel => exact ⟨m + 1, by omega, by go_num, by rw [hS.out, Int.natCast_add, Int.natCast_mul]; rfl⟩
      case measure => simp [intOf]; omega
    · have hm' : m = t.size := Nat.le_antisymm hm (Nat.not_lt.1 hlt)
      subst hm'
      have hT : (nl t).take t.size = nl t := List.take_of_length_le (by rw [nl_length]; exact Nat.le_refl _)
      rw [hT]
      go_wp2
      go_ret
      exact HE
theorem whole_lt (e : Int) (s : ByteArray) (k : Nat) : WireM.val (nl (WireM.raw e s k).1) < 256 ^ k :=
  Nat.lt_of_lt_of_le (WireM.val_lt _ (nl_lt _)) (Nat.pow_le_pow_right (by decide) (by rw [nl_length]; exact raw_size e s k))
theorem u64_int (v : Nat) (h : v < 65536) : IntKind.i64.wrap (v : Int) = (v : Int) := IntWalk.i64_in _ (by omega)
def BytePost (w : World) (B : Nat) (e : Int) (s : ByteArray) (n : Int) (x : Ending) (w' : World) : Prop :=
  x = .returned (.int .i64 ((WireM.val (nl (WireM.raw e s n).1) : Nat) : Int)) ∧ Rd w' B (WireM.raw e s n).2.1 (WireM.raw e s n).2.2 ∧ Kq.Keeps (· = B) w w'
set_option maxRecDepth 100000 in
theorem rd_byte (B : Nat) (e : Int) (s : ByteArray) (w : World) (h : Rd w B e s) (hs : s.size ≤ maxLen) :
    Calls Tryd.prog 26 #[.pointer (some ⟨B, 0, none⟩)] w (BytePost w B e s (1 : Nat)) := by
  have hw := u64_int _ (Nat.lt_trans (whole_lt e s 1) (by decide))
  go_enter Tryd.func26, Tryd.ntmps26
  go_wp2_with fail
  refine (rd_whole B e s 1 _ h hs (by omega)).mono ?_
  rintro x w2 ⟨rfl, R2, K2⟩
  have HP : ∀ x, x = .returned (.int .i64 ((WireM.val (nl (WireM.raw e s ((1 : Nat) : Int)).1) : Nat) : Int)) → BytePost w B e s ((1 : Nat) : Int) x w2 := fun x hx => ⟨hx, R2, K2⟩
  have HP := Lib.hid HP
  clear R2 K2
  generalize WireM.val (nl (WireM.raw e s ((1 : Nat) : Int)).1) = v at *
  go_wp2
  go_ret
  exact HP.out _ rfl
set_option maxRecDepth 100000 in
theorem rd_number (B : Nat) (e : Int) (s : ByteArray) (w : World) (h : Rd w B e s) (hs : s.size ≤ maxLen) :
    Calls Tryd.prog 27 #[.pointer (some ⟨B, 0, none⟩)] w (WholePost w B e s (8 : Nat)) := by
  go_enter Tryd.func27, Tryd.ntmps27
  go_wp2_with fail
  refine (rd_whole B e s 8 _ h hs (by omega)).mono ?_
  rintro x w2 ⟨rfl, R2, K2⟩
  go_wp2
  go_ret
  exact ⟨rfl, R2, K2⟩
def TextPost (w : World) (B : Nat) (e : Int) (s : ByteArray) (x : Ending) (w' : World) : Prop :=
  RawPost w B (WireM.raw e s (2 : Nat)).2.1 (WireM.raw e s (2 : Nat)).2.2 ((WireM.val (nl (WireM.raw e s (2 : Nat)).1) : Nat) : Int) x w'
theorem raw_left_size (e : Int) (s : ByteArray) (n : Int) : (WireM.raw e s n).2.2.size ≤ s.size := by
  unfold WireM.raw
  split
  · exact Nat.le_refl _
  · split
    · simp
    · exact Nat.le_refl _
set_option maxRecDepth 100000 in
theorem rd_text (B : Nat) (e : Int) (s : ByteArray) (w : World) (h : Rd w B e s) (hs : s.size ≤ maxLen) :
    Calls Tryd.prog 28 #[.pointer (some ⟨B, 0, none⟩)] w (TextPost w B e s) := by
  have hw := u64_int _ (Nat.lt_of_lt_of_le (whole_lt e s 2) (by decide))
  have hl := Nat.le_trans (raw_left_size e s ((2 : Nat) : Int)) hs
  have HT : ∀ x w', RawPost w B (WireM.raw e s (2 : Nat)).2.1 (WireM.raw e s (2 : Nat)).2.2 ((WireM.val (nl (WireM.raw e s (2 : Nat)).1) : Nat) : Int) x w' → TextPost w B e s x w' := fun _ _ h => h
  have HT := Lib.hid HT
  go_enter Tryd.func28, Tryd.ntmps28
  go_wp2_with fail
  refine (rd_whole B e s 2 _ h hs (by omega)).mono ?_
  rintro x w2 ⟨rfl, R2, K2⟩
  generalize (WireM.raw e s ((2 : Nat) : Int)).2.1 = e2 at *
  generalize (WireM.raw e s ((2 : Nat) : Int)).2.2 = s2 at *
  generalize WireM.val (nl (WireM.raw e s ((2 : Nat) : Int)).1) = v at *
  go_wp2_with fail
  refine (rd_raw B e2 s2 v _ R2 hl).mono ?_
  rintro x w3 ⟨rfl, R3, K3⟩
  go_wp2
  go_ret
  exact HT.out _ _ ⟨rfl, R3, K2.trans K3⟩
def leftOf (e : Int) (s : ByteArray) : Nat := if e = 0 then s.size else 0
def endOf (e : Int) (s : ByteArray) : Int := if e = 0 then (if s.size = 0 then 0 else 7) else e
set_option maxRecDepth 100000 in
theorem rd_left (B : Nat) (e : Int) (s : ByteArray) (w : World) (h : Rd w B e s) :
    Calls Tryd.prog 29 #[.pointer (some ⟨B, 0, none⟩)] w fun x w' => x = .returned (.int .i64 ((leftOf e s : Nat) : Int)) ∧ w = w' := by
  have c1 := h.c1
  by_cases he : e = 0
  · have HL : Hid (leftOf e s = s.size) := Lib.hid (if_pos he)
    subst he
    go_enter Tryd.func29, Tryd.ntmps29
    go_wp2_with fail
    refine (mem_err B 0 _ h.c0).mono ?_
    rintro x w3 ⟨rfl, rfl⟩
    go_wp2
    go_ret
    exact ⟨by rw [HL.out]; rfl, rfl⟩
  · have HL : Hid (leftOf e s = 0) := Lib.hid (if_neg he)
    have hne' : (e != 0) = true := by simpa using he
    clear he
    go_enter Tryd.func29, Tryd.ntmps29
    go_wp2_with fail
    refine (mem_err B e _ h.c0).mono ?_
    rintro x w3 ⟨rfl, rfl⟩
    go_wp2
    go_ret
    exact ⟨by rw [HL.out]; rfl, rfl⟩
set_option maxRecDepth 100000 in
theorem rd_end (B : Nat) (e : Int) (s : ByteArray) (w : World) (h : Rd w B e s) :
    Calls Tryd.prog 12 #[.pointer (some ⟨B, 0, none⟩)] w fun x w' => x = .returned (.int .i64 (endOf e s)) ∧ w = w' := by
  by_cases hp : 0 < leftOf e s
  · have HE : Hid (endOf e s = 7) := Lib.hid (by
      unfold leftOf at hp; unfold endOf
      by_cases he : e = 0
      · rw [if_pos he] at hp ⊢; rw [if_neg (by omega)]
      · rw [if_neg he] at hp; omega)
    go_enter Tryd.func12, Tryd.ntmps12
    go_wp2_with fail
    refine (rd_left B e s _ h).mono ?_
    rintro x w3 ⟨rfl, rfl⟩
    generalize leftOf e s = v at *
    go_wp2
    go_ret
    exact ⟨by rw [HE.out]; rfl, rfl⟩
  · have HE : Hid (endOf e s = e) := Lib.hid (by
      unfold leftOf at hp; unfold endOf
      by_cases he : e = 0
      · rw [if_pos he] at hp ⊢; rw [if_pos (by omega), he]
      · rw [if_neg he])
    go_enter Tryd.func12, Tryd.ntmps12
    go_wp2_with fail
    refine (rd_left B e s _ h).mono ?_
    rintro x w3 ⟨rfl, rfl⟩
    generalize leftOf e s = v at *
    go_wp2_with fail
    refine (mem_err B e _ h.c0).mono ?_
    rintro x w3 ⟨rfl, rfl⟩
    go_wp2
    go_ret
    exact ⟨by rw [HE.out]; rfl, rfl⟩
end Go.Proofs.YtclepgpaifaneaaDoor
namespace Go.Proofs.YtclepgpaifaneaaDoor
open Go.RowKit
set_option linter.unusedVariables false
theorem ext_left (a b : ByteArray) : (a ++ b).extract 0 a.size = a := by
  apply nl_inj
  rw [nl_extract, nl_append, Nat.sub_zero, List.drop_zero, ← nl_length a, List.take_left]
theorem ext_right (a b : ByteArray) : (a ++ b).extract a.size (a ++ b).size = b := by
  apply nl_inj
  have h : (a ++ b).size = a.size + b.size := by rw [← nl_length, nl_append, List.length_append, nl_length, nl_length]
  rw [nl_extract, nl_append, h, ← nl_length a, List.drop_left, ← nl_length b]
  rw [show (nl a).length + (nl b).length - (nl a).length = (nl b).length by omega, List.take_length]
theorem raw_first2 (B : Nat) (a b : ByteArray) (w : World) (h : Rd w B 0 (a ++ b)) (hs : (a ++ b).size ≤ maxLen) :
    Calls Tryd.prog 10 #[.pointer (some ⟨B, 0, none⟩), .int .i64 (a.size : Int)] w fun x w' => x = .returned (.string a) ∧ Rd w' B 0 b ∧ Kq.Keeps (· = B) w w' :=
  (rd_raw B 0 (a ++ b) (a.size : Int) w h hs).mono fun x w' hp => by
    have h : (a ++ b).size = a.size + b.size := by rw [← nl_length, nl_append, List.length_append, nl_length, nl_length]
    unfold RawPost at hp
    rw [WireM.raw_ok (a ++ b) a.size (by omega), ext_left, ext_right] at hp
    exact hp
theorem raw_rest (B : Nat) (b : ByteArray) (w : World) (h : Rd w B 0 b) (hs : b.size ≤ maxLen) :
    Calls Tryd.prog 10 #[.pointer (some ⟨B, 0, none⟩), .int .i64 (b.size : Int)] w fun x w' => x = .returned (.string b) ∧ Rd w' B 0 ⟨#[]⟩ ∧ Kq.Keeps (· = B) w w' :=
  (rd_raw B 0 b (b.size : Int) w h hs).mono fun x w' hp => by
    unfold RawPost at hp
    have e1 : b.extract 0 b.size = b := by apply nl_inj; rw [nl_extract, Nat.sub_zero, List.drop_zero, ← nl_length b, List.take_length]
    have e2 : b.extract b.size b.size = ⟨#[]⟩ := by apply nl_inj; rw [nl_extract, Nat.sub_self, List.take_zero]; rfl
    rw [WireM.raw_ok b b.size (Nat.le_refl _), e1, e2] at hp
    exact hp
end Go.Proofs.YtclepgpaifaneaaDoor
