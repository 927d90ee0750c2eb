/- Merged: WireRd, BeNum, WireRd2. Contracts of wire's reader. Condition: lengths are ints, a reader is one that NewReader made. Numbers as bytes, the highest first; contract of carrackref03.Bytes. Condition: eight bytes at most. Contracts of wire's reader, more: numbers, texts, what is left, the end. Condition: lengths are ints. -/
import Derived.WalkSpells
import Derived.Test.YtkbiolhcpghmkaaGreatObjQ
import Derived.Test.YtkbiolhcpghmkaaGreatWireMQ
namespace Go.Proofs.YtkbiolhcpghmkaaGreat
open Go.RowKit
set_option linter.unusedVariables false
def Rd (w : World) (B : Nat) (e : Int) (s : ByteArray) : Prop := w.heap[B]? = some (.cells #[.int .i64 e, .string s] 138 (0, 0))
section
variable {w : World} {B : Nat} {e : Int} {s : ByteArray} (h : Rd w B e s)
include h
theorem Rd.c0 : w.cell? ⟨B, 0, none⟩ = some (.int .i64 e) := Kq.blk_cell h 0
theorem Rd.c1 : w.cell? ⟨B, 1, none⟩ = some (.string s) := Kq.blk_cell h 1
theorem Rd.f0 : w.frozen? ⟨B, 0, none⟩ = false := Kq.blk_free h 0
theorem Rd.f1 : w.frozen? ⟨B, 1, none⟩ = false := Kq.blk_free h 1
theorem Rd.set0 (f : Int) : Rd (w.setCell ⟨B, 0, none⟩ (.int .i64 f)) B f s := Kq.blk_set h 0 _
theorem Rd.set1 (t : ByteArray) : Rd (w.setCell ⟨B, 1, none⟩ (.string t)) B e t := Kq.blk_set h 1 _
theorem Rd.lt : B < w.heap.size := Kq.blk_lt h
end
set_option maxRecDepth 100000 in
theorem mem_err (B : Nat) (e : Int) (w : World) (h : w.cell? ⟨B, 0, none⟩ = some (.int .i64 e)) :
    Calls Tryz.prog 52 #[.pointer (some ⟨B, 0, none⟩)] w fun x w' => x = .returned (.int .i64 e) ∧ w = w' := by
  go_enter Tryz.func52, Tryz.ntmps52
  go_wp2
  go_ret
  exact ⟨rfl, rfl⟩
set_option maxRecDepth 100000 in
theorem mem_fail_ok (B : Nat) (f : Int) (w : World) (h : w.cell? ⟨B, 0, none⟩ = some (.int .i64 0)) (hf : w.frozen? ⟨B, 0, none⟩ = false) :
    Calls Tryz.prog 54 #[.pointer (some ⟨B, 0, none⟩), .int .i64 f] w fun x w' => x = .returned (.tuple #[]) ∧ w.setCell ⟨B, 0, none⟩ (.int .i64 f) = w' := by
  go_enter Tryz.func54, Tryz.ntmps54
  go_wp2
  go_end0
  exact ⟨rfl, rfl⟩
set_option maxRecDepth 100000 in
theorem mem_fail_no (B : Nat) (e f : Int) (w : World) (h : w.cell? ⟨B, 0, none⟩ = some (.int .i64 e)) (he : e ≠ 0) :
    Calls Tryz.prog 54 #[.pointer (some ⟨B, 0, none⟩), .int .i64 f] w fun x w' => x = .returned (.tuple #[]) ∧ w = w' := by
  have he' : (e == 0) = false := by simpa using he
  clear he
  go_enter Tryz.func54, Tryz.ntmps54
  go_wp2
  go_end0
  exact ⟨rfl, rfl⟩
theorem rd_fail (B : Nat) (e f : Int) (s : ByteArray) (w : World) (h : Rd w B e s) :
    Calls Tryz.prog 54 #[.pointer (some ⟨B, 0, none⟩), .int .i64 f] w fun x w' => x = .returned (.tuple #[]) ∧ Rd w' B (if e = 0 then f else e) s ∧ Kq.Keeps (· = B) w w' := by
  by_cases he : e = 0
  · subst he
    refine (mem_fail_ok B f w h.c0 h.f0).mono ?_
    rintro x w' ⟨rfl, rfl⟩
    exact ⟨rfl, h.set0 f, Kq.Keeps.setCell _ _ _ rfl⟩
  · refine (mem_fail_no B e f w h.c0 he).mono ?_
    rintro x w' ⟨rfl, rfl⟩
    exact ⟨rfl, by rw [if_neg he]; exact h, Kq.Keeps.refl _ _⟩
set_option maxRecDepth 100000 in
theorem rd_new (s : ByteArray) (w : World) :
    Calls Tryz.prog 59 #[.string s] w fun x w' => x = .returned (.pointer (some ⟨w.heap.size, 0, none⟩)) ∧ Rd w' w.heap.size 0 s ∧ Below w.heap.size w w' := by
  go_enter Tryz.func59, Tryz.ntmps59
  go_wp2
  go_ret
  exact ⟨rfl, Kq.blk_new _ _ _ _, Kq.below_alloc _ _⟩
/-- what Raw tells and leaves -/
def RawPost (w : World) (B : Nat) (e : Int) (s : ByteArray) (n : Int) (x : Ending) (w' : World) : Prop :=
  x = .returned (.string (WireM.raw e s n).1) ∧ Rd w' B (WireM.raw e s n).2.1 (WireM.raw e s n).2.2 ∧ Kq.Keeps (· = B) w w'
set_option maxRecDepth 100000 in
set_option maxHeartbeats 400000 in
theorem rd_raw (B : Nat) (e : Int) (s : ByteArray) (n : Int) (w : World) (h : Rd w B e s) (hs : s.size ≤ maxLen) :
    Calls Tryz.prog 109 #[.pointer (some ⟨B, 0, none⟩), .int .i64 n] w (RawPost w B e s n) := by
  have c1 := h.c1
  have H := Lib.hid h
  clear h
  have c0 := H.out.c0
  by_cases hbad : n < 0 ∨ (s.size : Int) < n
  · have HP := Lib.hid (WireM.raw_bad e s n hbad)
    have hbad' := Lib.hid hbad
    have hne : (if e = 0 then (6 : Int) else e) ≠ 0 := by split <;> omega
    obtain ⟨e1, hE⟩ : ∃ e1, (if e = 0 then (6 : Int) else e) = e1 := ⟨_, rfl⟩
    have HE := Lib.hid hE
    rw [hE] at HP hne
    clear hE hbad
    have hne' : (e1 != 0) = true := by simpa using hne
    clear hne
    by_cases h0 : n < 0
    · clear c0 c1
      go_enter Tryz.func109, Tryz.ntmps109
      go_wp2_with fail
      refine (rd_fail B e 6 s _ H.out).mono ?_
      rintro x w2 ⟨rfl, R2, K2⟩
      rw [HE.out] at R2
      go_wp2_with fail
      refine (mem_err B e1 _ R2.c0).mono ?_
      rintro x w3 ⟨rfl, rfl⟩
      go_wp2
      go_ret
      exact ⟨by rw [HP.out]; rfl, by rw [HP.out]; exact R2, K2⟩
    · have h1 : (s.size : Int) < n := hbad'.out.resolve_left h0
      have hd : decide ((s.size : Int) < n) = true := decide_eq_true h1
      go_enter Tryz.func109, Tryz.ntmps109
      go_wp2_with fail
      refine (rd_fail B e 6 s _ H.out).mono ?_
      rintro x w2 ⟨rfl, R2, K2⟩
      rw [HE.out] at R2
      go_wp2_with fail
      refine (mem_err B e1 _ R2.c0).mono ?_
      rintro x w3 ⟨rfl, rfl⟩
      go_wp2
      go_ret
      exact ⟨by rw [HP.out]; rfl, by rw [HP.out]; exact R2, K2⟩
  · obtain ⟨m, rfl⟩ := Int.eq_ofNat_of_zero_le (show 0 ≤ n by omega)
    have hm : m ≤ s.size := by omega
    have hd : decide ((s.size : Int) < (m : Int)) = false := by simp; omega
    clear hbad
    by_cases he : e = 0
    · subst he
      have HP := Lib.hid (WireM.raw_ok s m hm)
      have f1 := H.out.f1
      go_enter Tryz.func109, Tryz.ntmps109
      go_wp2_with fail
      refine (mem_err B 0 _ c0).mono ?_
      rintro x w3 ⟨rfl, rfl⟩
      go_wp2
      go_ret
      exact ⟨by rw [HP.out]; rfl, by rw [HP.out]; exact H.out.set1 _, Kq.Keeps.setCell _ _ _ rfl⟩
    · have HP := Lib.hid (WireM.raw_stuck e s m he)
      have hne' : (e != 0) = true := by simpa using he
      clear he
      go_enter Tryz.func109, Tryz.ntmps109
      go_wp2_with fail
      refine (mem_err B e _ c0).mono ?_
      rintro x w3 ⟨rfl, rfl⟩
      go_wp2
      go_ret
      exact ⟨by rw [HP.out]; rfl, by rw [HP.out]; exact H.out, Kq.Keeps.refl _ _⟩
end Go.Proofs.YtkbiolhcpghmkaaGreat
namespace Go.Proofs.YtkbiolhcpghmkaaGreat
open Go.RowKit
set_option linter.unusedVariables false
def M64 : Nat := 18446744073709551616
/-- the first k of the eight bytes of a number, the highest first -/
def num8 (n : Nat) : List Nat := [n / 72057594037927936 % 256, n / 281474976710656 % 256, n / 1099511627776 % 256, n / 4294967296 % 256, n / 16777216 % 256, n / 65536 % 256, n / 256 % 256, n % 256]
def hi2 (n : Nat) : List Nat := [n / 256, n % 256]
/-- so many bytes of a number, the highest first -/
def be (n k : Nat) : List Nat := ((List.range k).map fun j => n / 256 ^ j % 256).reverse
theorem be_succ (n k : Nat) : be n (k + 1) = (n / 256 ^ k % 256) :: be n k := by
  unfold be; rw [List.range_succ, List.map_append, List.reverse_append]; rfl
theorem be_len (n k : Nat) : (be n k).length = k := by simp [be]
theorem be_lt (n k : Nat) : ∀ b ∈ be n k, b < 256 := by
  intro b hb
  simp only [be, List.mem_reverse, List.mem_map] at hb
  obtain ⟨j, _, rfl⟩ := hb
  exact Nat.mod_lt _ (by decide)
theorem be8 (n : Nat) : be n 8 = num8 n := by simp [be, num8, List.range, List.range.loop]
theorem be2 (n : Nat) (h : n < 65536) : be n 2 = hi2 n := by
  simp [be, hi2, List.range, List.range.loop]; omega
theorem be1 (n : Nat) (h : n < 256) : be n 1 = [n] := by
  simp [be, List.range, List.range.loop]; omega
theorem txt_cons (b : Nat) (l : List Nat) (hb : b < 256) (hl : ∀ b ∈ l, b < 256) : txt [b] ++ txt l = txt (b :: l) := by
  apply nl_inj
  rw [nl_append, nl_txt _ hl, nl_txt _ (by simpa using hb), nl_txt _ (by intro x hx; exact (List.mem_cons.1 hx).elim (fun h => h ▸ hb) (hl x))]
  rfl
theorem q_int (v : Nat) (h : v < 18446744073709551616) : IntKind.u64.wrap ((v : Int) / 256) = ((v / 256 : Nat) : Int) := by
  rw [IntWalk.u64_in _ (by omega)]; rfl
set_option maxRecDepth 100000 in
set_option maxHeartbeats 2000000 in
theorem ref_num (n c : Nat) (w : World) (hn : n < M64) (hc : c ≤ 8) :
    Calls Tryz.prog 45 #[.int .u64 (n : Int), .int .i64 (c : Int)] w fun x w' => x = .returned (.string (txt (be n c))) ∧ Below w.heap.size w w' := by
  have HN := Lib.hid hn
  clear hn
  go_enter Tryz.func45, Tryz.ntmps45
  go_wp2
  go_loopw [0, 5, 6] (fun m s i wr => ∃ k : Nat, k ≤ c ∧ i = .int .i64 k ∧ m = .int .u64 ((n / 256 ^ k : Nat) : Int) ∧ s = .string (txt (be n k)) ∧ Below w.heap.size w wr) (fun _ _ i _ => c - (intOf i).toNat)
  case atStart => exact ⟨0, by omega, rfl, by rw [Nat.pow_zero, Nat.div_one], rfl, Below.refl _ _⟩
  case round =>
    obtain ⟨k, hk, rfl, rfl, rfl, hb⟩ := hrel
    by_cases hlt : k < c
    · have hS := Lib.hid (be_succ n k)
      have hT := Lib.hid (txt_cons (n / 256 ^ k % 256) (be n k) (Nat.mod_lt _ (by decide)) (be_lt n k))
      have hD : Hid (n / 256 ^ (k + 1) = n / 256 ^ k / 256) := Lib.hid (by rw [Nat.pow_succ, Nat.div_div_eq_div_mul])
      have hsz : (txt (be n k)).size ≤ 8 := by rw [txt_size, be_len]; omega
      have hv : n / 256 ^ k < M64 := Nat.lt_of_le_of_lt (Nat.div_le_self _ _) HN.out
      unfold M64 at hv
      have HV := Lib.hid hv
      have HQ : Hid (IntKind.u64.wrap (((n / 256 ^ k : Nat) : Int) / 256) = ((n / 256 ^ k / 256 : Nat) : Int)) := Lib.hid (q_int _ HV.out)
      clear hv
      have HB := Lib.hid hb
      clear hb
      have HLT := Lib.hid hlt
      generalize n / 256 ^ k = v at *
      generalize txt (be n k) = s at *
      obtain ⟨t, ht, htz, hcv⟩ : ∃ t, Hid (t = txt [v % 256]) ∧ t.size = 1 ∧ (convert 71 9 (.slice (some ⟨wr.heap.size, 0, none⟩) 1 1)).run Tryz.prog (wr.alloc (Obj.cells #[Value.int IntKind.u8 ((v : Int) % 256)] 5)) = .ok (.string t) (wr.alloc (Obj.cells #[Value.int IntKind.u8 ((v : Int) % 256)] 5)) := by
        refine ⟨_, Lib.hid rfl, by rw [txt_size]; rfl, ?_⟩
        have hcv := Kq.conv_bytes (P := Tryz.prog) (wr.alloc (Obj.cells #[Value.int IntKind.u8 ((v : Int) % 256)] 5)) (src := 71) (dst := 9) ⟨wr.heap.size, 0, none⟩ (([v % 256]).map UInt8.ofNat) 1 Tryz.underlying71 Tryz.underlying5 Tryz.underlying9
          (fun j u hj => Kq.cell_new _ _ _ (by
            rw [← hj, ← List.getElem?_toArray]
            congr 1
            simp))
        exact hcv
      rw [← ht.out] at hT
      go_wp2
      go_round
      case rel => exact ⟨k + 1, by have := HLT.out; omega, by go_num, by rw [hD.out, HQ.out], by rw [hS.out, ← hT.out], HB.out.trans ((Kq.below_alloc _ _).mono HB.out.size)⟩
      case measure => have := HLT.out; simp [intOf]; omega
    · have hk' : k = c := Nat.le_antisymm hk (Nat.not_lt.1 hlt)
      subst hk'
      have HB := Lib.hid hb
      clear hb
      go_wp2
      go_ret
      exact ⟨rfl, HB.out⟩
theorem num8_lt (n : Nat) : ∀ b ∈ num8 n, b < 256 := by rw [← be8]; exact be_lt n 8
end Go.Proofs.YtkbiolhcpghmkaaGreat
namespace Go.Proofs.YtkbiolhcpghmkaaGreat
open Go.RowKit
set_option linter.unusedVariables false
def WholePost (w : World) (B : Nat) (e : Int) (s : ByteArray) (n : Int) (x : Ending) (w' : World) : Prop :=
  x = .returned (.int .u64 ((WireM.val (nl (WireM.raw e s n).1) : Nat) : Int)) ∧ Rd w' B (WireM.raw e s n).2.1 (WireM.raw e s n).2.2 ∧ Kq.Keeps (· = B) w w'
theorem raw_size (e : Int) (s : ByteArray) (k : Nat) : (WireM.raw e s k).1.size ≤ k := by
  unfold WireM.raw
  split
  · exact Nat.zero_le _
  · split
    · simp; omega
    · exact Nat.zero_le _
theorem val_snoc (l : List Nat) (b : Nat) : WireM.val (l ++ [b]) = WireM.val l * 256 + b := by simp [WireM.val]
theorem or_byte (v : Nat) (b : UInt8) (hv : v < 256 ^ 7) : bits .or .u64 (IntKind.u64.wrap ((v : Int) * 256)) (IntKind.u64.wrap ((b.toNat : Nat) : Int)) = ((v * 256 + b.toNat : Nat) : Int) := by
  have hb := b.toNat_lt
  have e1 : IntKind.u64.wrap ((v : Int) * 256) = ((v * 256 : Nat) : Int) := by rw [IntKind.wrap_u64]; omega
  have e2 : IntKind.u64.wrap ((b.toNat : Nat) : Int) = ((b.toNat : Nat) : Int) := by rw [IntKind.wrap_u64]; omega
  rw [e1, e2, u64_or_nat _ _ (by omega) (by omega), nat_join 8 (v * 256) b.toNat (by omega) hb]
theorem val_succ (t : ByteArray) (m : Nat) (h : m < t.size) : WireM.val ((nl t).take (m + 1)) = WireM.val ((nl t).take m) * 256 + t[m].toNat := by
  rw [take_succ_nl t m h, val_snoc]
theorem val_take_lt (t : ByteArray) (m : Nat) (h : m < t.size) (h8 : t.size ≤ 8) : WireM.val ((nl t).take m) < 256 ^ 7 := by
  refine Nat.lt_of_lt_of_le (WireM.val_lt _ (fun b hb => nl_lt t b (List.mem_of_mem_take hb))) (Nat.pow_le_pow_right (by decide) ?_)
  rw [List.length_take]; omega
set_option maxRecDepth 100000 in
set_option maxHeartbeats 400000 in
theorem rd_whole (B : Nat) (e : Int) (s : ByteArray) (k : Nat) (w : World) (h : Rd w B e s) (hs : s.size ≤ maxLen) (hk : k ≤ 8) :
    Calls Tryz.prog 95 #[.pointer (some ⟨B, 0, none⟩), .int .i64 (k : Int)] w (WholePost w B e s k) := by
  go_enter Tryz.func95, Tryz.ntmps95
  go_wp2_with fail
  refine (rd_raw B e s k _ h hs).mono ?_
  rintro x w2 ⟨rfl, R2, K2⟩
  have hsz : (WireM.raw e s k).1.size ≤ 8 := Nat.le_trans (raw_size e s k) hk
  have HE : Hid (WholePost w B e s k (.returned (.int .u64 ((WireM.val (nl (WireM.raw e s k).1) : Nat) : Int))) w2) := ⟨rfl, R2, K2⟩
  clear R2 K2
  generalize (WireM.raw e s k).1 = t at *
  go_wp2
  go_loop [6, 13] (fun y j => ∃ m : Nat, m ≤ t.size ∧ j = .int .i64 m ∧ y = .int .u64 (WireM.val ((nl t).take m) : Nat)) (fun _ j => t.size - (intOf j).toNat)
  case atStart => exact ⟨0, by omega, rfl, rfl⟩
  case round =>
    obtain ⟨m, hm, rfl, rfl⟩ := hrel
    by_cases hlt : m < t.size
    · have hS := Lib.hid (val_succ t m hlt)
      have hv := val_take_lt t m hlt hsz
      generalize WireM.val ((nl t).take m) = v at *
      have ho := or_byte v t[m] hv
      clear hv
      go_wp2
      go_round
      case rel => exact ⟨m + 1, by omega, by go_num, by rw [hS.out, Int.natCast_add, Int.natCast_mul]; rfl⟩
      case measure => simp [intOf]; omega
    · have hm' : m = t.size := Nat.le_antisymm hm (Nat.not_lt.1 hlt)
      subst hm'
      have hT : (nl t).take t.size = nl t := List.take_of_length_le (by rw [nl_length]; exact Nat.le_refl _)
      rw [hT]
      go_wp2
      go_ret
      exact HE
theorem whole_lt (e : Int) (s : ByteArray) (k : Nat) : WireM.val (nl (WireM.raw e s k).1) < 256 ^ k :=
  Nat.lt_of_lt_of_le (WireM.val_lt _ (nl_lt _)) (Nat.pow_le_pow_right (by decide) (by rw [nl_length]; exact raw_size e s k))
theorem u64_int (v : Nat) (h : v < 65536) : IntKind.i64.wrap (v : Int) = (v : Int) := IntWalk.i64_in _ (by omega)
def BytePost (w : World) (B : Nat) (e : Int) (s : ByteArray) (n : Int) (x : Ending) (w' : World) : Prop :=
  x = .returned (.int .i64 ((WireM.val (nl (WireM.raw e s n).1) : Nat) : Int)) ∧ Rd w' B (WireM.raw e s n).2.1 (WireM.raw e s n).2.2 ∧ Kq.Keeps (· = B) w w'
set_option maxRecDepth 100000 in
theorem rd_byte (B : Nat) (e : Int) (s : ByteArray) (w : World) (h : Rd w B e s) (hs : s.size ≤ maxLen) :
    Calls Tryz.prog 75 #[.pointer (some ⟨B, 0, none⟩)] w (BytePost w B e s (1 : Nat)) := by
  have hw := u64_int _ (Nat.lt_trans (whole_lt e s 1) (by decide))
  go_enter Tryz.func75, Tryz.ntmps75
  go_wp2_with fail
  refine (rd_whole B e s 1 _ h hs (by omega)).mono ?_
  rintro x w2 ⟨rfl, R2, K2⟩
  have HP : ∀ x, x = .returned (.int .i64 ((WireM.val (nl (WireM.raw e s ((1 : Nat) : Int)).1) : Nat) : Int)) → BytePost w B e s ((1 : Nat) : Int) x w2 := fun x hx => ⟨hx, R2, K2⟩
  have HP := Lib.hid HP
  clear R2 K2
  generalize WireM.val (nl (WireM.raw e s ((1 : Nat) : Int)).1) = v at *
  go_wp2
  go_ret
  exact HP.out _ rfl
set_option maxRecDepth 100000 in
theorem rd_number (B : Nat) (e : Int) (s : ByteArray) (w : World) (h : Rd w B e s) (hs : s.size ≤ maxLen) :
    Calls Tryz.prog 96 #[.pointer (some ⟨B, 0, none⟩)] w (WholePost w B e s (8 : Nat)) := by
  go_enter Tryz.func96, Tryz.ntmps96
  go_wp2_with fail
  refine (rd_whole B e s 8 _ h hs (by omega)).mono ?_
  rintro x w2 ⟨rfl, R2, K2⟩
  go_wp2
  go_ret
  exact ⟨rfl, R2, K2⟩
def TextPost (w : World) (B : Nat) (e : Int) (s : ByteArray) (x : Ending) (w' : World) : Prop :=
  RawPost w B (WireM.raw e s (2 : Nat)).2.1 (WireM.raw e s (2 : Nat)).2.2 ((WireM.val (nl (WireM.raw e s (2 : Nat)).1) : Nat) : Int) x w'
theorem raw_left_size (e : Int) (s : ByteArray) (n : Int) : (WireM.raw e s n).2.2.size ≤ s.size := by
  unfold WireM.raw
  split
  · exact Nat.le_refl _
  · split
    · simp
    · exact Nat.le_refl _
set_option maxRecDepth 100000 in
theorem rd_text (B : Nat) (e : Int) (s : ByteArray) (w : World) (h : Rd w B e s) (hs : s.size ≤ maxLen) :
    Calls Tryz.prog 112 #[.pointer (some ⟨B, 0, none⟩)] w (TextPost w B e s) := by
  have hw := u64_int _ (Nat.lt_of_lt_of_le (whole_lt e s 2) (by decide))
  have hl := Nat.le_trans (raw_left_size e s ((2 : Nat) : Int)) hs
  have HT : ∀ x w', RawPost w B (WireM.raw e s (2 : Nat)).2.1 (WireM.raw e s (2 : Nat)).2.2 ((WireM.val (nl (WireM.raw e s (2 : Nat)).1) : Nat) : Int) x w' → TextPost w B e s x w' := fun _ _ h => h
  have HT := Lib.hid HT
  go_enter Tryz.func112, Tryz.ntmps112
  go_wp2_with fail
  refine (rd_whole B e s 2 _ h hs (by omega)).mono ?_
  rintro x w2 ⟨rfl, R2, K2⟩
  generalize (WireM.raw e s ((2 : Nat) : Int)).2.1 = e2 at *
  generalize (WireM.raw e s ((2 : Nat) : Int)).2.2 = s2 at *
  generalize WireM.val (nl (WireM.raw e s ((2 : Nat) : Int)).1) = v at *
  go_wp2_with fail
  refine (rd_raw B e2 s2 v _ R2 hl).mono ?_
  rintro x w3 ⟨rfl, R3, K3⟩
  go_wp2
  go_ret
  exact HT.out _ _ ⟨rfl, R3, K2.trans K3⟩
def leftOf (e : Int) (s : ByteArray) : Nat := if e = 0 then s.size else 0
def endOf (e : Int) (s : ByteArray) : Int := if e = 0 then (if s.size = 0 then 0 else 7) else e
set_option maxRecDepth 100000 in
theorem rd_left (B : Nat) (e : Int) (s : ByteArray) (w : World) (h : Rd w B e s) :
    Calls Tryz.prog 79 #[.pointer (some ⟨B, 0, none⟩)] w fun x w' => x = .returned (.int .i64 ((leftOf e s : Nat) : Int)) ∧ w = w' := by
  have c1 := h.c1
  by_cases he : e = 0
  · have HL : Hid (leftOf e s = s.size) := Lib.hid (if_pos he)
    subst he
    go_enter Tryz.func79, Tryz.ntmps79
    go_wp2_with fail
    refine (mem_err B 0 _ h.c0).mono ?_
    rintro x w3 ⟨rfl, rfl⟩
    go_wp2
    go_ret
    exact ⟨by rw [HL.out]; rfl, rfl⟩
  · have HL : Hid (leftOf e s = 0) := Lib.hid (if_neg he)
    have hne' : (e != 0) = true := by simpa using he
    clear he
    go_enter Tryz.func79, Tryz.ntmps79
    go_wp2_with fail
    refine (mem_err B e _ h.c0).mono ?_
    rintro x w3 ⟨rfl, rfl⟩
    go_wp2
    go_ret
    exact ⟨by rw [HL.out]; rfl, rfl⟩
set_option maxRecDepth 100000 in
theorem rd_end (B : Nat) (e : Int) (s : ByteArray) (w : World) (h : Rd w B e s) :
    Calls Tryz.prog 61 #[.pointer (some ⟨B, 0, none⟩)] w fun x w' => x = .returned (.int .i64 (endOf e s)) ∧ w = w' := by
  by_cases hp : 0 < leftOf e s
  · have HE : Hid (endOf e s = 7) := Lib.hid (by
      unfold leftOf at hp; unfold endOf
      by_cases he : e = 0
      · rw [if_pos he] at hp ⊢; rw [if_neg (by omega)]
      · rw [if_neg he] at hp; omega)
    go_enter Tryz.func61, Tryz.ntmps61
    go_wp2_with fail
    refine (rd_left B e s _ h).mono ?_
    rintro x w3 ⟨rfl, rfl⟩
    generalize leftOf e s = v at *
    go_wp2
    go_ret
    exact ⟨by rw [HE.out]; rfl, rfl⟩
  · have HE : Hid (endOf e s = e) := Lib.hid (by
      unfold leftOf at hp; unfold endOf
      by_cases he : e = 0
      · rw [if_pos he] at hp ⊢; rw [if_pos (by omega), he]
      · rw [if_neg he])
    go_enter Tryz.func61, Tryz.ntmps61
    go_wp2_with fail
    refine (rd_left B e s _ h).mono ?_
    rintro x w3 ⟨rfl, rfl⟩
    generalize leftOf e s = v at *
    go_wp2_with fail
    refine (mem_err B e _ h.c0).mono ?_
    rintro x w3 ⟨rfl, rfl⟩
    go_wp2
    go_ret
    exact ⟨by rw [HE.out]; rfl, rfl⟩
end Go.Proofs.YtkbiolhcpghmkaaGreat
