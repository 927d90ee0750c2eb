/- Merged: BeNum, WireRd, WireRd2, PkChk, PfM, NtVal. Numbers as bytes, the highest first; contract of carrackref03.Bytes. Condition: eight bytes at most. Contracts of wire's reader. Condition: lengths are ints, a reader is one that NewReader made. Contracts of wire's reader, more: numbers, texts, what is left, the end. Condition: lengths are ints. A packet, and the contract of packet.Check. No condition. Mathematics of proofs' bytes (layer 9): what a proof's bytes are; unlike proofs have unlike bytes, whatever stands behind. No condition but sizes. A note, or an item, as a value; in memory. No condition. -/
import Derived.WalkSpells
import Derived.Test.YtbjchfcoacmaaaaGreatDoorWireMQ
import Derived.Test.YtbjchfcoacmaaaaGreatDoorObjQ
namespace Go.Proofs.YtbjchfcoacmaaaaGreatDoor
open Go.RowKit
set_option linter.unusedVariables false
def M64 : Nat := 18446744073709551616
/-- the first k of the eight bytes of a number, the highest first -/
def num8 (n : Nat) : List Nat := [n / 72057594037927936 % 256, n / 281474976710656 % 256, n / 1099511627776 % 256, n / 4294967296 % 256, n / 16777216 % 256, n / 65536 % 256, n / 256 % 256, n % 256]
def hi2 (n : Nat) : List Nat := [n / 256, n % 256]
/-- so many bytes of a number, the highest first -/
def be (n k : Nat) : List Nat := ((List.range k).map fun j => n / 256 ^ j % 256).reverse
theorem be_succ (n k : Nat) : be n (k + 1) = (n / 256 ^ k % 256) :: be n k := by
  unfold be; rw [List.range_succ, List.map_append, List.reverse_append]; rfl
theorem be_len (n k : Nat) : (be n k).length = k := by simp [be]
theorem be_lt (n k : Nat) : ∀ b ∈ be n k, b < 256 := by
  intro b hb
  simp only [be, List.mem_reverse, List.mem_map] at hb
  obtain ⟨j, _, rfl⟩ := hb
  exact Nat.mod_lt _ (by decide)
theorem be8 (n : Nat) : be n 8 = num8 n := by simp [be, num8, List.range, List.range.loop]
theorem txt_cons (b : Nat) (l : List Nat) (hb : b < 256) (hl : ∀ b ∈ l, b < 256) : txt [b] ++ txt l = txt (b :: l) := by
  apply nl_inj
  rw [nl_append, nl_txt _ hl, nl_txt _ (by simpa using hb), nl_txt _ (by intro x hx; exact (List.mem_cons.1 hx).elim (fun h => h ▸ hb) (hl x))]
  rfl
theorem q_int (v : Nat) (h : v < 18446744073709551616) : IntKind.u64.wrap ((v : Int) / 256) = ((v / 256 : Nat) : Int) := by
  rw [IntWalk.u64_in _ (by omega)]; rfl
set_option maxRecDepth 100000 in
set_option maxHeartbeats 2000000 in
theorem ref_num (n c : Nat) (w : World) (hn : n < M64) (hc : c ≤ 8) :
    Calls Tryz.prog 128 #[.int .u64 (n : Int), .int .i64 (c : Int)] w fun x w' => x = .returned (.string (txt (be n c))) ∧ Below w.heap.size w w' := by
  have HN := Lib.hid hn
  clear hn
  go_enter Tryz.func128, Tryz.ntmps128
  go_wp2
  go_loopw [0, 5, 6] (fun m s i wr => ∃ k : Nat, k ≤ c ∧ i = .int .i64 k ∧ m = .int .u64 ((n / 256 ^ k : Nat) : Int) ∧ s = .string (txt (be n k)) ∧ Below w.heap.size w wr) (fun _ _ i _ => c - (intOf i).toNat)
  case atStart => exact ⟨0, by omega, rfl, by rw [Nat.pow_zero, Nat.div_one], rfl, Below.refl _ _⟩
  case round =>
    obtain ⟨k, hk, rfl, rfl, rfl, hb⟩ := hrel
    by_cases hlt : k < c
    · have hS := Lib.hid (be_succ n k)
      have hT := Lib.hid (txt_cons (n / 256 ^ k % 256) (be n k) (Nat.mod_lt _ (by decide)) (be_lt n k))
      have hD : Hid (n / 256 ^ (k + 1) = n / 256 ^ k / 256) := Lib.hid (by rw [Nat.pow_succ, Nat.div_div_eq_div_mul])
      have hsz : (txt (be n k)).size ≤ 8 := by rw [txt_size, be_len]; omega
      have hv : n / 256 ^ k < M64 := Nat.lt_of_le_of_lt (Nat.div_le_self _ _) HN.out
      unfold M64 at hv
      have HV := Lib.hid hv
      have HQ : Hid (IntKind.u64.wrap (((n / 256 ^ k : Nat) : Int) / 256) = ((n / 256 ^ k / 256 : Nat) : Int)) := Lib.hid (q_int _ HV.out)
      clear hv
      have HB := Lib.hid hb
      clear hb
      have HLT := Lib.hid hlt
      generalize n / 256 ^ k = v at *
      generalize txt (be n k) = s at *
      obtain ⟨t, ht, htz, hcv⟩ : ∃ t, Hid (t = txt [v % 256]) ∧ t.size = 1 ∧ (convert 157 9 (.slice (some ⟨wr.heap.size, 0, none⟩) 1 1)).run Tryz.prog (wr.alloc (Obj.cells #[Value.int IntKind.u8 ((v : Int) % 256)] 5)) = .ok (.string t) (wr.alloc (Obj.cells #[Value.int IntKind.u8 ((v : Int) % 256)] 5)) := by
        refine ⟨_, Lib.hid rfl, by rw [txt_size]; rfl, ?_⟩
        have hcv := Kq.conv_bytes (P := Tryz.prog) (wr.alloc (Obj.cells #[Value.int IntKind.u8 ((v : Int) % 256)] 5)) (src := 157) (dst := 9) ⟨wr.heap.size, 0, none⟩ (([v % 256]).map UInt8.ofNat) 1 Tryz.underlying157 Tryz.underlying5 Tryz.underlying9
          (fun j u hj => Kq.cell_new _ _ _ (by
            rw [← hj, ← List.getElem?_toArray]
            congr 1
            simp))
        exact hcv
      rw [← ht.out] at hT
      go_wp2
      go_round
      case rel => exact ⟨k + 1, by have := HLT.out; omega, by go_num, by rw [hD.out, HQ.out], by rw [hS.out, ← hT.out], HB.out.trans ((Kq.below_alloc _ _).mono HB.out.size)⟩
      case measure => have := HLT.out; simp [intOf]; omega
    · have hk' : k = c := Nat.le_antisymm hk (Nat.not_lt.1 hlt)
      subst hk'
      have HB := Lib.hid hb
      clear hb
      go_wp2
      go_ret
      exact ⟨rfl, HB.out⟩
theorem num8_lt (n : Nat) : ∀ b ∈ num8 n, b < 256 := by rw [← be8]; exact be_lt n 8
end Go.Proofs.YtbjchfcoacmaaaaGreatDoor
namespace Go.Proofs.YtbjchfcoacmaaaaGreatDoor
open Go.RowKit
set_option linter.unusedVariables false
def Rd (w : World) (B : Nat) (e : Int) (s : ByteArray) : Prop := w.heap[B]? = some (.cells #[.int .i64 e, .string s] 168 (0, 0))
section
variable {w : World} {B : Nat} {e : Int} {s : ByteArray} (h : Rd w B e s)
include h
theorem Rd.c0 : w.cell? ⟨B, 0, none⟩ = some (.int .i64 e) := Kq.blk_cell h 0
theorem Rd.c1 : w.cell? ⟨B, 1, none⟩ = some (.string s) := Kq.blk_cell h 1
theorem Rd.f0 : w.frozen? ⟨B, 0, none⟩ = false := Kq.blk_free h 0
theorem Rd.f1 : w.frozen? ⟨B, 1, none⟩ = false := Kq.blk_free h 1
theorem Rd.set0 (f : Int) : Rd (w.setCell ⟨B, 0, none⟩ (.int .i64 f)) B f s := Kq.blk_set h 0 _
theorem Rd.set1 (t : ByteArray) : Rd (w.setCell ⟨B, 1, none⟩ (.string t)) B e t := Kq.blk_set h 1 _
theorem Rd.lt : B < w.heap.size := Kq.blk_lt h
end
set_option maxRecDepth 100000 in
theorem mem_err (B : Nat) (e : Int) (w : World) (h : w.cell? ⟨B, 0, none⟩ = some (.int .i64 e)) :
    Calls Tryz.prog 99 #[.pointer (some ⟨B, 0, none⟩)] w fun x w' => x = .returned (.int .i64 e) ∧ w = w' := by
  go_enter Tryz.func99, Tryz.ntmps99
  go_wp2
  go_ret
  exact ⟨rfl, rfl⟩
set_option maxRecDepth 100000 in
theorem mem_fail_ok (B : Nat) (f : Int) (w : World) (h : w.cell? ⟨B, 0, none⟩ = some (.int .i64 0)) (hf : w.frozen? ⟨B, 0, none⟩ = false) :
    Calls Tryz.prog 139 #[.pointer (some ⟨B, 0, none⟩), .int .i64 f] w fun x w' => x = .returned (.tuple #[]) ∧ w.setCell ⟨B, 0, none⟩ (.int .i64 f) = w' := by
  go_enter Tryz.func139, Tryz.ntmps139
  go_wp2
  go_end0
  exact ⟨rfl, rfl⟩
set_option maxRecDepth 100000 in
theorem mem_fail_no (B : Nat) (e f : Int) (w : World) (h : w.cell? ⟨B, 0, none⟩ = some (.int .i64 e)) (he : e ≠ 0) :
    Calls Tryz.prog 139 #[.pointer (some ⟨B, 0, none⟩), .int .i64 f] w fun x w' => x = .returned (.tuple #[]) ∧ w = w' := by
  have he' : (e == 0) = false := by simpa using he
  clear he
  go_enter Tryz.func139, Tryz.ntmps139
  go_wp2
  go_end0
  exact ⟨rfl, rfl⟩
theorem rd_fail (B : Nat) (e f : Int) (s : ByteArray) (w : World) (h : Rd w B e s) :
    Calls Tryz.prog 139 #[.pointer (some ⟨B, 0, none⟩), .int .i64 f] w fun x w' => x = .returned (.tuple #[]) ∧ Rd w' B (if e = 0 then f else e) s ∧ Kq.Keeps (· = B) w w' := by
  by_cases he : e = 0
  · subst he
    refine (mem_fail_ok B f w h.c0 h.f0).mono ?_
    rintro x w' ⟨rfl, rfl⟩
    exact ⟨rfl, h.set0 f, Kq.Keeps.setCell _ _ _ rfl⟩
  · refine (mem_fail_no B e f w h.c0 he).mono ?_
    rintro x w' ⟨rfl, rfl⟩
    exact ⟨rfl, by rw [if_neg he]; exact h, Kq.Keeps.refl _ _⟩
set_option maxRecDepth 100000 in
theorem rd_new (s : ByteArray) (w : World) :
    Calls Tryz.prog 97 #[.string s] w fun x w' => x = .returned (.pointer (some ⟨w.heap.size, 0, none⟩)) ∧ Rd w' w.heap.size 0 s ∧ Below w.heap.size w w' := by
  go_enter Tryz.func97, Tryz.ntmps97
  go_wp2
  go_ret
  exact ⟨rfl, Kq.blk_new _ _ _ _, Kq.below_alloc _ _⟩
/-- what Raw tells and leaves -/
def RawPost (w : World) (B : Nat) (e : Int) (s : ByteArray) (n : Int) (x : Ending) (w' : World) : Prop :=
  x = .returned (.string (WireM.raw e s n).1) ∧ Rd w' B (WireM.raw e s n).2.1 (WireM.raw e s n).2.2 ∧ Kq.Keeps (· = B) w w'
set_option maxRecDepth 100000 in
set_option maxHeartbeats 400000 in
theorem rd_raw (B : Nat) (e : Int) (s : ByteArray) (n : Int) (w : World) (h : Rd w B e s) (hs : s.size ≤ maxLen) :
    Calls Tryz.prog 143 #[.pointer (some ⟨B, 0, none⟩), .int .i64 n] w (RawPost w B e s n) := by
  have c1 := h.c1
  have H := Lib.hid h
  clear h
  have c0 := H.out.c0
  by_cases hbad : n < 0 ∨ (s.size : Int) < n
  · have HP := Lib.hid (WireM.raw_bad e s n hbad)
    have hbad' := Lib.hid hbad
    have hne : (if e = 0 then (6 : Int) else e) ≠ 0 := by split <;> omega
    obtain ⟨e1, hE⟩ : ∃ e1, (if e = 0 then (6 : Int) else e) = e1 := ⟨_, rfl⟩
    have HE := Lib.hid hE
    rw [hE] at HP hne
    clear hE hbad
    have hne' : (e1 != 0) = true := by simpa using hne
    clear hne
    by_cases h0 : n < 0
    · clear c0 c1
      go_enter Tryz.func143, Tryz.ntmps143
      go_wp2_with fail
      refine (rd_fail B e 6 s _ H.out).mono ?_
      rintro x w2 ⟨rfl, R2, K2⟩
      rw [HE.out] at R2
      go_wp2_with fail
      refine (mem_err B e1 _ R2.c0).mono ?_
      rintro x w3 ⟨rfl, rfl⟩
      go_wp2
      go_ret
      exact ⟨by rw [HP.out]; rfl, by rw [HP.out]; exact R2, K2⟩
    · have h1 : (s.size : Int) < n := hbad'.out.resolve_left h0
      have hd : decide ((s.size : Int) < n) = true := decide_eq_true h1
      go_enter Tryz.func143, Tryz.ntmps143
      go_wp2_with fail
      refine (rd_fail B e 6 s _ H.out).mono ?_
      rintro x w2 ⟨rfl, R2, K2⟩
      rw [HE.out] at R2
      go_wp2_with fail
      refine (mem_err B e1 _ R2.c0).mono ?_
      rintro x w3 ⟨rfl, rfl⟩
      go_wp2
      go_ret
      exact ⟨by rw [HP.out]; rfl, by rw [HP.out]; exact R2, K2⟩
  · obtain ⟨m, rfl⟩ := Int.eq_ofNat_of_zero_le (show 0 ≤ n by omega)
    have hm : m ≤ s.size := by omega
    have hd : decide ((s.size : Int) < (m : Int)) = false := by simp; omega
    clear hbad
    by_cases he : e = 0
    · subst he
      have HP := Lib.hid (WireM.raw_ok s m hm)
      have f1 := H.out.f1
      go_enter Tryz.func143, Tryz.ntmps143
      go_wp2_with fail
      refine (mem_err B 0 _ c0).mono ?_
      rintro x w3 ⟨rfl, rfl⟩
      go_wp2
      go_ret
      exact ⟨by rw [HP.out]; rfl, by rw [HP.out]; exact H.out.set1 _, Kq.Keeps.setCell _ _ _ rfl⟩
    · have HP := Lib.hid (WireM.raw_stuck e s m he)
      have hne' : (e != 0) = true := by simpa using he
      clear he
      go_enter Tryz.func143, Tryz.ntmps143
      go_wp2_with fail
      refine (mem_err B e _ c0).mono ?_
      rintro x w3 ⟨rfl, rfl⟩
      go_wp2
      go_ret
      exact ⟨by rw [HP.out]; rfl, by rw [HP.out]; exact H.out, Kq.Keeps.refl _ _⟩
end Go.Proofs.YtbjchfcoacmaaaaGreatDoor
namespace Go.Proofs.YtbjchfcoacmaaaaGreatDoor
open Go.RowKit
set_option linter.unusedVariables false
def WholePost (w : World) (B : Nat) (e : Int) (s : ByteArray) (n : Int) (x : Ending) (w' : World) : Prop :=
  x = .returned (.int .u64 ((WireM.val (nl (WireM.raw e s n).1) : Nat) : Int)) ∧ Rd w' B (WireM.raw e s n).2.1 (WireM.raw e s n).2.2 ∧ Kq.Keeps (· = B) w w'
theorem raw_size (e : Int) (s : ByteArray) (k : Nat) : (WireM.raw e s k).1.size ≤ k := by
  unfold WireM.raw
  split
  · exact Nat.zero_le _
  · split
    · simp; omega
    · exact Nat.zero_le _
theorem val_snoc (l : List Nat) (b : Nat) : WireM.val (l ++ [b]) = WireM.val l * 256 + b := by simp [WireM.val]
theorem or_byte (v : Nat) (b : UInt8) (hv : v < 256 ^ 7) : bits .or .u64 (IntKind.u64.wrap ((v : Int) * 256)) (IntKind.u64.wrap ((b.toNat : Nat) : Int)) = ((v * 256 + b.toNat : Nat) : Int) := by
  have hb := b.toNat_lt
  have e1 : IntKind.u64.wrap ((v : Int) * 256) = ((v * 256 : Nat) : Int) := by rw [IntKind.wrap_u64]; omega
  have e2 : IntKind.u64.wrap ((b.toNat : Nat) : Int) = ((b.toNat : Nat) : Int) := by rw [IntKind.wrap_u64]; omega
  rw [e1, e2, u64_or_nat _ _ (by omega) (by omega), nat_join 8 (v * 256) b.toNat (by omega) hb]
theorem val_succ (t : ByteArray) (m : Nat) (h : m < t.size) : WireM.val ((nl t).take (m + 1)) = WireM.val ((nl t).take m) * 256 + t[m].toNat := by
  rw [take_succ_nl t m h, val_snoc]
theorem val_take_lt (t : ByteArray) (m : Nat) (h : m < t.size) (h8 : t.size ≤ 8) : WireM.val ((nl t).take m) < 256 ^ 7 := by
  refine Nat.lt_of_lt_of_le (WireM.val_lt _ (fun b hb => nl_lt t b (List.mem_of_mem_take hb))) (Nat.pow_le_pow_right (by decide) ?_)
  rw [List.length_take]; omega
set_option maxRecDepth 100000 in
set_option maxHeartbeats 400000 in
theorem rd_whole (B : Nat) (e : Int) (s : ByteArray) (k : Nat) (w : World) (h : Rd w B e s) (hs : s.size ≤ maxLen) (hk : k ≤ 8) :
    Calls Tryz.prog 140 #[.pointer (some ⟨B, 0, none⟩), .int .i64 (k : Int)] w (WholePost w B e s k) := by
  go_enter Tryz.func140, Tryz.ntmps140
  go_wp2_with fail
  refine (rd_raw B e s k _ h hs).mono ?_
  rintro x w2 ⟨rfl, R2, K2⟩
  have hsz : (WireM.raw e s k).1.size ≤ 8 := Nat.le_trans (raw_size e s k) hk
  have HE : Hid (WholePost w B e s k (.returned (.int .u64 ((WireM.val (nl (WireM.raw e s k).1) : Nat) : Int))) w2) := ⟨rfl, R2, K2⟩
  clear R2 K2
  generalize (WireM.raw e s k).1 = t at *
  go_wp2
  go_loop [6, 13] (fun y j => ∃ m : Nat, m ≤ t.size ∧ j = .int .i64 m ∧ y = .int .u64 (WireM.val ((nl t).take m) : Nat)) (fun _ j => t.size - (intOf j).toNat)
  case atStart => exact ⟨0, by omega, rfl, rfl⟩
  case round =>
    obtain ⟨m, hm, rfl, rfl⟩ := hrel
    by_cases hlt : m < t.size
    · have hS := Lib.hid (val_succ t m hlt)
      have hv := val_take_lt t m hlt hsz
      generalize WireM.val ((nl t).take m) = v at *
      have ho := or_byte v t[m] hv
      clear hv
      go_wp2
      go_round
      case rel => exact ⟨m + 1, by omega, by go_num, by rw [hS.out, Int.natCast_add, Int.natCast_mul]; rfl⟩
      case measure => simp [intOf]; omega
    · have hm' : m = t.size := Nat.le_antisymm hm (Nat.not_lt.1 hlt)
      subst hm'
      have hT : (nl t).take t.size = nl t := List.take_of_length_le (by rw [nl_length]; exact Nat.le_refl _)
      rw [hT]
      go_wp2
      go_ret
      exact HE
theorem whole_lt (e : Int) (s : ByteArray) (k : Nat) : WireM.val (nl (WireM.raw e s k).1) < 256 ^ k :=
  Nat.lt_of_lt_of_le (WireM.val_lt _ (nl_lt _)) (Nat.pow_le_pow_right (by decide) (by rw [nl_length]; exact raw_size e s k))
theorem u64_int (v : Nat) (h : v < 65536) : IntKind.i64.wrap (v : Int) = (v : Int) := IntWalk.i64_in _ (by omega)
def BytePost (w : World) (B : Nat) (e : Int) (s : ByteArray) (n : Int) (x : Ending) (w' : World) : Prop :=
  x = .returned (.int .i64 ((WireM.val (nl (WireM.raw e s n).1) : Nat) : Int)) ∧ Rd w' B (WireM.raw e s n).2.1 (WireM.raw e s n).2.2 ∧ Kq.Keeps (· = B) w w'
set_option maxRecDepth 100000 in
theorem rd_byte (B : Nat) (e : Int) (s : ByteArray) (w : World) (h : Rd w B e s) (hs : s.size ≤ maxLen) :
    Calls Tryz.prog 98 #[.pointer (some ⟨B, 0, none⟩)] w (BytePost w B e s (1 : Nat)) := by
  have hw := u64_int _ (Nat.lt_trans (whole_lt e s 1) (by decide))
  go_enter Tryz.func98, Tryz.ntmps98
  go_wp2_with fail
  refine (rd_whole B e s 1 _ h hs (by omega)).mono ?_
  rintro x w2 ⟨rfl, R2, K2⟩
  have HP : ∀ x, x = .returned (.int .i64 ((WireM.val (nl (WireM.raw e s ((1 : Nat) : Int)).1) : Nat) : Int)) → BytePost w B e s ((1 : Nat) : Int) x w2 := fun x hx => ⟨hx, R2, K2⟩
  have HP := Lib.hid HP
  clear R2 K2
  generalize WireM.val (nl (WireM.raw e s ((1 : Nat) : Int)).1) = v at *
  go_wp2
  go_ret
  exact HP.out _ rfl
set_option maxRecDepth 100000 in
theorem rd_number (B : Nat) (e : Int) (s : ByteArray) (w : World) (h : Rd w B e s) (hs : s.size ≤ maxLen) :
    Calls Tryz.prog 141 #[.pointer (some ⟨B, 0, none⟩)] w (WholePost w B e s (8 : Nat)) := by
  go_enter Tryz.func141, Tryz.ntmps141
  go_wp2_with fail
  refine (rd_whole B e s 8 _ h hs (by omega)).mono ?_
  rintro x w2 ⟨rfl, R2, K2⟩
  go_wp2
  go_ret
  exact ⟨rfl, R2, K2⟩
def TextPost (w : World) (B : Nat) (e : Int) (s : ByteArray) (x : Ending) (w' : World) : Prop :=
  RawPost w B (WireM.raw e s (2 : Nat)).2.1 (WireM.raw e s (2 : Nat)).2.2 ((WireM.val (nl (WireM.raw e s (2 : Nat)).1) : Nat) : Int) x w'
theorem raw_left_size (e : Int) (s : ByteArray) (n : Int) : (WireM.raw e s n).2.2.size ≤ s.size := by
  unfold WireM.raw
  split
  · exact Nat.le_refl _
  · split
    · simp
    · exact Nat.le_refl _
set_option maxRecDepth 100000 in
theorem rd_text (B : Nat) (e : Int) (s : ByteArray) (w : World) (h : Rd w B e s) (hs : s.size ≤ maxLen) :
    Calls Tryz.prog 142 #[.pointer (some ⟨B, 0, none⟩)] w (TextPost w B e s) := by
  have hw := u64_int _ (Nat.lt_of_lt_of_le (whole_lt e s 2) (by decide))
  have hl := Nat.le_trans (raw_left_size e s ((2 : Nat) : Int)) hs
  have HT : ∀ x w', RawPost w B (WireM.raw e s (2 : Nat)).2.1 (WireM.raw e s (2 : Nat)).2.2 ((WireM.val (nl (WireM.raw e s (2 : Nat)).1) : Nat) : Int) x w' → TextPost w B e s x w' := fun _ _ h => h
  have HT := Lib.hid HT
  go_enter Tryz.func142, Tryz.ntmps142
  go_wp2_with fail
  refine (rd_whole B e s 2 _ h hs (by omega)).mono ?_
  rintro x w2 ⟨rfl, R2, K2⟩
  generalize (WireM.raw e s ((2 : Nat) : Int)).2.1 = e2 at *
  generalize (WireM.raw e s ((2 : Nat) : Int)).2.2 = s2 at *
  generalize WireM.val (nl (WireM.raw e s ((2 : Nat) : Int)).1) = v at *
  go_wp2_with fail
  refine (rd_raw B e2 s2 v _ R2 hl).mono ?_
  rintro x w3 ⟨rfl, R3, K3⟩
  go_wp2
  go_ret
  exact HT.out _ _ ⟨rfl, R3, K2.trans K3⟩
end Go.Proofs.YtbjchfcoacmaaaaGreatDoor
namespace Go.Proofs.YtbjchfcoacmaaaaGreatDoor
open Go.RowKit
set_option linter.unusedVariables false
/-- a packet -/
structure PkV where
  f : Int
  q : Int
  t : Int
  d : ByteArray
def PkV.val (p : PkV) : Value := .agg #[.int .i64 p.f, .int .u64 p.q, .int .u64 p.t, .string p.d]
def PkOk (p : PkV) : Prop := 0 ≤ p.f ∧ p.f ≤ 1 ∧ p.q ≠ 0 ∧ p.t ≠ 0 ∧ p.d.size ≤ 64
instance (p : PkV) : Decidable (PkOk p) := by unfold PkOk; infer_instance
set_option maxRecDepth 100000 in
set_option maxHeartbeats 1000000 in
theorem pk_check_ok (f q t : Int) (d : ByteArray) (w : World) (h : PkOk ⟨f, q, t, d⟩) :
    Calls Tryz.prog 19 #[.agg #[.int .i64 f, .int .u64 q, .int .u64 t, .string d]] w fun x w' => x = .returned (.int .i64 0) ∧ Below w.heap.size w w' := by
  obtain ⟨h1, h2, h3, h4, h5⟩ := h
  simp only at h1 h2 h3 h4 h5
  have e1 : decide (f < 0) = false := decide_eq_false (by omega)
  have e2 : decide (1 < f) = false := decide_eq_false (by omega)
  have e3 : (q == 0) = false := by simpa using h3
  have e4 : (t == 0) = false := by simpa using h4
  have e5 : decide (64 < (d.size : Int)) = false := decide_eq_false (by omega)
  clear h3 h4
  go_enter Tryz.func19, Tryz.ntmps19
  go_wp2
  go_ret
  exact ⟨rfl, Kq.below_alloc _ _⟩
set_option maxRecDepth 100000 in
set_option maxHeartbeats 1000000 in
theorem pk_check_bad (f q t : Int) (d : ByteArray) (w : World) (h : ¬ PkOk ⟨f, q, t, d⟩) :
    Calls Tryz.prog 19 #[.agg #[.int .i64 f, .int .u64 q, .int .u64 t, .string d]] w fun x w' => x = .returned (.int .i64 1) ∧ Below w.heap.size w w' := by
  have H := Lib.hid h
  clear h
  by_cases h1 : f < 0
  · have e1 : decide (f < 0) = true := decide_eq_true h1
    go_enter Tryz.func19, Tryz.ntmps19
    go_wp2
    go_ret
    exact ⟨rfl, Kq.below_alloc _ _⟩
  have e1 : decide (f < 0) = false := decide_eq_false h1
  by_cases h2 : 1 < f
  · have e2 : decide (1 < f) = true := decide_eq_true h2
    go_enter Tryz.func19, Tryz.ntmps19
    go_wp2
    go_ret
    exact ⟨rfl, Kq.below_alloc _ _⟩
  have e2 : decide (1 < f) = false := decide_eq_false h2
  by_cases h3 : q = 0
  · subst h3
    go_enter Tryz.func19, Tryz.ntmps19
    go_wp2
    go_ret
    exact ⟨rfl, Kq.below_alloc _ _⟩
  have e3 : (q == 0) = false := by simpa using h3
  by_cases h4 : t = 0
  · subst h4
    clear h3
    go_enter Tryz.func19, Tryz.ntmps19
    go_wp2
    go_ret
    exact ⟨rfl, Kq.below_alloc _ _⟩
  have e4 : (t == 0) = false := by simpa using h4
  have h5 : 64 < d.size := by
    refine Nat.lt_of_not_le fun h5 => H.out ⟨by show 0 ≤ f; omega, by show f ≤ 1; omega, h3, h4, h5⟩
  have e5 : decide (64 < (d.size : Int)) = true := decide_eq_true (by omega)
  clear h3 h4
  go_enter Tryz.func19, Tryz.ntmps19
  go_wp2
  go_ret
  exact ⟨rfl, Kq.below_alloc _ _⟩
end Go.Proofs.YtbjchfcoacmaaaaGreatDoor
namespace Go.Proofs.YtbjchfcoacmaaaaGreatDoor
open Go.RowKit
set_option linter.unusedVariables false
/-- a leaf of a proof -/
structure LfV where
  i : Int
  c : Int
  k : ByteArray
  v : ByteArray
  p : List ByteArray
structure PfV where
  ab : Bool
  ls : List LfV
structure LfMay (l : LfV) : Prop where
  i0 : 0 ≤ l.i
  i1 : l.i ≤ 4096
  c0 : 0 ≤ l.c
  c1 : l.c ≤ 4096
  k : l.k.size ≤ 16
  v : l.v.size ≤ 64
  n : l.p.length ≤ 16
  d : ∀ x ∈ l.p, x.size = 32
def PfMay (p : PfV) : Prop := p.ls.length ≤ 2 ∧ ∀ l ∈ p.ls, LfMay l
/-- a text, its length ahead by two bytes -/
def tx2 (s : ByteArray) : List Nat := [s.size / 256, s.size % 256] ++ nl s
def rawL : List ByteArray → List Nat
  | [] => []
  | d :: l => nl d ++ rawL l
def lfB (l : LfV) : List Nat := num8 l.i.toNat ++ (num8 l.c.toNat ++ (tx2 l.k ++ (tx2 l.v ++ ([l.p.length] ++ rawL l.p))))
def lsB : List LfV → List Nat
  | [] => []
  | l :: m => lfB l ++ lsB m
def pfB (p : PfV) : List Nat := [if p.ab then 2 else 1] ++ ([p.ls.length] ++ lsB p.ls)
theorem num8_pre {m n : Nat} {r t : List Nat} (hm : m < M64) (hn : n < M64) (h : num8 m ++ r = num8 n ++ t) : m = n ∧ r = t := by
  obtain ⟨h1, h2⟩ := List.append_inj h rfl
  refine ⟨?_, h2⟩
  unfold num8 at h1
  simp only [List.cons.injEq, and_true] at h1
  unfold M64 at hm hn
  omega
theorem tx2_pre {s u : ByteArray} {r t : List Nat} (h : tx2 s ++ r = tx2 u ++ t) : s = u ∧ r = t := by
  unfold tx2 at h
  simp only [List.cons_append, List.nil_append] at h
  injection h with h1 h2
  injection h2 with h3 h4
  have hs : s.size = u.size := by omega
  obtain ⟨h5, h6⟩ := List.append_inj h4 (by rw [nl_length, nl_length, hs])
  exact ⟨nl_inj h5, h6⟩
theorem rawL_pre : ∀ (l m : List ByteArray) (r t : List Nat), l.length = m.length → (∀ x ∈ l, x.size = 32) → (∀ x ∈ m, x.size = 32) → rawL l ++ r = rawL m ++ t → l = m ∧ r = t
  | [], [], r, t, _, _, _, h => ⟨rfl, h⟩
  | d :: l, e :: m, r, t, hl, h1, h2, h => by
    unfold rawL at h
    rw [List.append_assoc, List.append_assoc] at h
    obtain ⟨h3, h4⟩ := List.append_inj h (by rw [nl_length, nl_length, h1 d List.mem_cons_self, h2 e List.mem_cons_self])
    obtain ⟨h5, h6⟩ := rawL_pre l m r t (by simpa using hl) (fun x hx => h1 x (List.mem_cons_of_mem _ hx)) (fun x hx => h2 x (List.mem_cons_of_mem _ hx)) h4
    exact ⟨by rw [nl_inj h3, h5], h6⟩
theorem lfB_pre {l m : LfV} {r t : List Nat} (hl : LfMay l) (hm : LfMay m) (h : lfB l ++ r = lfB m ++ t) : l = m ∧ r = t := by
  unfold lfB at h
  simp only [List.append_assoc] at h
  have hb : ∀ z : Int, 0 ≤ z → z ≤ 4096 → z.toNat < M64 := fun z h0 h1 => by unfold M64; omega
  obtain ⟨e1, h⟩ := num8_pre (hb _ hl.i0 hl.i1) (hb _ hm.i0 hm.i1) h
  obtain ⟨e2, h⟩ := num8_pre (hb _ hl.c0 hl.c1) (hb _ hm.c0 hm.c1) h
  obtain ⟨e3, h⟩ := tx2_pre h
  obtain ⟨e4, h⟩ := tx2_pre h
  simp only [List.cons_append, List.nil_append] at h
  injection h with e5 h
  obtain ⟨e6, h⟩ := rawL_pre _ _ _ _ e5 hl.d hm.d h
  refine ⟨?_, h⟩
  have q1 : l.i = m.i := by have := hl.i0; have := hm.i0; omega
  have q2 : l.c = m.c := by have := hl.c0; have := hm.c0; omega
  obtain ⟨i, c, k, v, p⟩ := l
  obtain ⟨i', c', k', v', p'⟩ := m
  simp only at q1 q2 e3 e4 e6
  rw [q1, q2, e3, e4, e6]
theorem lsB_pre : ∀ (l m : List LfV) (r t : List Nat), l.length = m.length → (∀ x ∈ l, LfMay x) → (∀ x ∈ m, LfMay x) → lsB l ++ r = lsB m ++ t → l = m ∧ r = t
  | [], [], r, t, _, _, _, h => ⟨rfl, h⟩
  | d :: l, e :: m, r, t, hl, h1, h2, h => by
    unfold lsB at h
    rw [List.append_assoc, List.append_assoc] at h
    obtain ⟨h3, h4⟩ := lfB_pre (h1 d List.mem_cons_self) (h2 e List.mem_cons_self) h
    obtain ⟨h5, h6⟩ := lsB_pre l m r t (by simpa using hl) (fun x hx => h1 x (List.mem_cons_of_mem _ hx)) (fun x hx => h2 x (List.mem_cons_of_mem _ hx)) h4
    exact ⟨by rw [h3, h5], h6⟩
/-- unlike proofs have unlike bytes -/
theorem pfB_inj {p q : PfV} (hp : PfMay p) (hq : PfMay q) (h : pfB p = pfB q) : p = q := by
  unfold pfB at h
  simp only [List.cons_append, List.nil_append] at h
  injection h with h1 h2
  injection h2 with h3 h4
  obtain ⟨h5, -⟩ := lsB_pre p.ls q.ls [] [] h3 hp.2 hq.2 (by rw [List.append_nil, List.append_nil]; exact h4)
  obtain ⟨a, l⟩ := p
  obtain ⟨b, m⟩ := q
  simp only at h1 h5
  rw [h5]
  cases a <;> cases b <;> simp at h1 ⊢
/-- every byte is one -/
theorem rawL_lt : ∀ (l : List ByteArray), ∀ x ∈ rawL l, x < 256
  | [], x, h => by cases h
  | d :: l, x, h => by
    rcases List.mem_append.1 h with h | h
    · exact nl_lt d x h
    · exact rawL_lt l x h
theorem tx2_lt {s : ByteArray} (h : s.size < 65536) : ∀ x ∈ tx2 s, x < 256 := fun x hx => by
  unfold tx2 at hx
  rcases List.mem_append.1 hx with hx | hx
  · simp only [List.mem_cons, List.not_mem_nil, or_false] at hx
    rcases hx with rfl | rfl <;> omega
  · exact nl_lt s x hx
theorem rawL_append : ∀ (l m : List ByteArray), rawL (l ++ m) = rawL l ++ rawL m
  | [], m => rfl
  | d :: l, m => by
    show nl d ++ rawL (l ++ m) = nl d ++ rawL l ++ rawL m
    rw [rawL_append l m, List.append_assoc]
theorem lsB_append : ∀ (l m : List LfV), lsB (l ++ m) = lsB l ++ lsB m
  | [], m => rfl
  | d :: l, m => by
    show lfB d ++ lsB (l ++ m) = lfB d ++ lsB l ++ lsB m
    rw [lsB_append l m, List.append_assoc]
theorem lfB_lt {l : LfV} (h : LfMay l) : ∀ x ∈ lfB l, x < 256 := fun x hx => by
  unfold lfB at hx
  simp only [List.mem_append, List.mem_cons, List.not_mem_nil, or_false] at hx
  have hk := h.k
  have hv := h.v
  have hn := h.n
  rcases hx with hx | hx | hx | hx | rfl | hx
  · exact num8_lt _ x hx
  · exact num8_lt _ x hx
  · exact tx2_lt (by omega) x hx
  · exact tx2_lt (by omega) x hx
  · omega
  · exact rawL_lt _ x hx
theorem lsB_lt : ∀ (l : List LfV), (∀ y ∈ l, LfMay y) → ∀ x ∈ lsB l, x < 256
  | [], _, x, h => by cases h
  | d :: l, hl, x, h => by
    rcases List.mem_append.1 h with h | h
    · exact lfB_lt (hl d List.mem_cons_self) x h
    · exact lsB_lt l (fun y hy => hl y (List.mem_cons_of_mem _ hy)) x h
theorem pfB_lt {p : PfV} (h : PfMay p) : ∀ x ∈ pfB p, x < 256 := fun x hx => by
  unfold pfB at hx
  simp only [List.mem_append, List.mem_cons, List.not_mem_nil, or_false] at hx
  have h1 := h.1
  rcases hx with rfl | rfl | hx
  · split <;> decide
  · omega
  · exact lsB_lt _ h.2 x hx
open Classical in
/-- a proof's bytes, or refused -/
noncomputable def pfBytes (p : PfV) : ByteArray × Int := if PfMay p then (txt (pfB p), 0) else (⟨#[]⟩, 1)
open Classical in
/-- bytes' proof, or none -/
noncomputable def pfParse (s : ByteArray) : PfV × Int := if h : ∃ p, PfMay p ∧ pfB p = nl s then (h.choose, 0) else (⟨false, []⟩, 5)
theorem pfParse_some {p : PfV} {s : ByteArray} (hp : PfMay p) (h : pfB p = nl s) : pfParse s = (p, 0) := by
  have hx : ∃ p, PfMay p ∧ pfB p = nl s := ⟨p, hp, h⟩
  unfold pfParse
  rw [dif_pos hx]
  have hc := hx.choose_spec
  rw [pfB_inj hc.1 hp (hc.2.trans h.symm)]
theorem pfParse_none {s : ByteArray} (h : ∀ p, PfMay p → pfB p ≠ nl s) : pfParse s = (⟨false, []⟩, 5) := by
  unfold pfParse
  rw [dif_neg]
  rintro ⟨p, hp, e⟩
  exact h p hp e
end Go.Proofs.YtbjchfcoacmaaaaGreatDoor
namespace Go.Proofs.YtbjchfcoacmaaaaGreatDoor
open Go.RowKit
set_option linter.unusedVariables false
/-- a note, or an item: a mark and a packet -/
structure NtV where
  k : Int
  f : Int
  q : Int
  t : Int
  d : ByteArray
def NtV.p (n : NtV) : PkV := ⟨n.f, n.q, n.t, n.d⟩
def NtV.nc (n : NtV) : List Value := [.int .i64 n.k, .int .i64 n.f, .int .u64 n.q, .int .u64 n.t, .string n.d]
/-- its numbers are a uint64's -/
def NtV.wf (n : NtV) : Prop := (0 ≤ n.q ∧ n.q < 18446744073709551616) ∧ (0 ≤ n.t ∧ n.t < 18446744073709551616)
/-- notes (or items) in memory -/
def EnAt (c : NtV → List Value) (w : World) (A : Option Addr) (l : List NtV) : Prop := ∀ j (h : j < l.length), ∃ b off, A = some ⟨b, off, none⟩ ∧ b < w.heap.size ∧ ∀ i, i < 5 → w.cell? ⟨b, off + j * 5 + i, none⟩ = (c l[j])[i]?
theorem EnAt.keeps {c : NtV → List Value} {w w' : World} {A : Option Addr} {l : List NtV} {S : Nat → Prop} (h : EnAt c w A l) (hk : Kq.Keeps S w w') (hS : ∀ g o, A = some ⟨g, o, none⟩ → ¬ S g) : EnAt c w' A l := fun j hj => by
  obtain ⟨b, off, rfl, hb, hc⟩ := h j hj
  refine ⟨b, off, rfl, Nat.lt_of_lt_of_le hb hk.size, fun i hi => ?_⟩
  rw [← hc i hi]
  unfold World.cell?
  rw [hk.block b hb (hS b off rfl)]
theorem EnAt.below {c : NtV → List Value} {w w' : World} {A : Option Addr} {l : List NtV} (h : EnAt c w A l) (hb : Below w.heap.size w w') : EnAt c w' A l :=
  h.keeps (Kq.Keeps.of_below (S := fun _ => False) hb (fun k h1 h2 => absurd h1 (Nat.not_le.2 h2))) (fun _ _ _ => id)
end Go.Proofs.YtbjchfcoacmaaaaGreatDoor
