/- Merged: PkKey, PkSeqM, PkGet. Contracts of packet's keys. No condition. Small lemmas on a reader of eight bytes; a reader that is new. No condition. Contract of packet.Get. Condition: lengths are ints. -/
import Derived.WalkSpells
import Derived.Outline
import Derived.Test.YtkbiolhcpghmkaaBetwQ
import Derived.Test.YtkbiolhcpghmkaaTbMQ
namespace Go.Proofs.Ytkbiolhcpghmkaa
open Go.RowKit
set_option linter.unusedVariables false
/-- a key: a letter, a number -/
def keyT (c n : Nat) : ByteArray := txt (c :: num8 n)
theorem keyT_size (c n : Nat) : (keyT c n).size = 9 := by unfold keyT; rw [txt_size]; rfl
theorem keyT_nl (c n : Nat) (hc : c < 256) : nl (keyT c n) = c :: num8 n :=
  nl_txt _ (by intro b hb; rcases List.mem_cons.1 hb with rfl | h; exact hc; exact num8_lt n b h)
theorem WrMid.fresh_own {w wr : World} {base B : Nat} {v : Value} {e : Int} {l : List Nat} (h : WrMid w base B (.slice none 0 0) e v l wr) : True := trivial
/-- packet.Sent, Received, Answered -/
theorem one_num (w : World) (n : Nat) : (w.alloc (.cells #[.int .u64 (n : Int)] 26)).cell? ⟨w.heap.size, 0, none⟩ = some (.int .u64 (n : Int)) := by simp
end Go.Proofs.Ytkbiolhcpghmkaa
namespace Go.Proofs.Ytkbiolhcpghmkaa
open Go.RowKit
set_option linter.unusedVariables false
theorem end_of (t : ByteArray) : endOf (WireM.raw 0 t (8 : Nat)).2.1 (WireM.raw 0 t (8 : Nat)).2.2 = if t.size = 8 then 0 else if t.size < 8 then 6 else 7 := by
  by_cases h : t.size < 8
  · have e : WireM.raw 0 t ((8 : Nat) : Int) = (⟨#[]⟩, 6, t) := by rw [WireM.raw_bad 0 t _ (Or.inr (by omega))]; rfl
    rw [e, if_neg (by omega), if_pos h]
    rfl
  · rw [WireM.raw_ok t 8 (by omega), if_neg h]
    unfold endOf
    simp only [if_true]
    have hz : (t.extract 8 t.size).size = t.size - 8 := by simp
    rw [hz]
    by_cases h8 : t.size = 8
    · rw [if_pos (by omega), if_pos h8]
    · rw [if_neg (by omega), if_neg h8]
theorem val_of (t : ByteArray) (h : t.size = 8) : WireM.val (nl (WireM.raw 0 t (8 : Nat)).1) = WireM.val (nl t) := by
  rw [WireM.raw_ok t 8 (by omega)]
  congr 1
  show nl (t.extract 0 8) = nl t
  rw [nl_extract, List.drop_zero, List.take_of_length_le (by rw [nl_length]; omega)]
theorem rd_fresh {w w' : World} {S : Nat → Prop} (h : Kq.Keeps S w w') (hS : ∀ k, S k → w.heap.size ≤ k) (B : Nat) (hB : B ≤ w.heap.size) : Below B w w' :=
  h.below hB (fun k _ hk => Nat.le_trans hB (hS k hk))
end Go.Proofs.Ytkbiolhcpghmkaa
namespace Go.Proofs.Ytkbiolhcpghmkaa
open Go.RowKit
set_option linter.unusedVariables false
def PkV.zero : PkV := ⟨0, 0, 0, ⟨#[]⟩⟩
/-- what is read, field by field -/
def gA (e : Int) (s : ByteArray) := WireM.raw e s ((1 : Nat) : Int)
def gB (e : Int) (s : ByteArray) := WireM.raw (gA e s).2.1 (gA e s).2.2 ((8 : Nat) : Int)
def gC (e : Int) (s : ByteArray) := WireM.raw (gB e s).2.1 (gB e s).2.2 ((8 : Nat) : Int)
def gD (e : Int) (s : ByteArray) := WireM.raw (gC e s).2.1 (gC e s).2.2 ((2 : Nat) : Int)
def gX (e : Int) (s : ByteArray) := WireM.raw (gD e s).2.1 (gD e s).2.2 ((WireM.val (nl (gD e s).1) : Nat) : Int)
def gP (e : Int) (s : ByteArray) : PkV := ⟨(WireM.val (nl (gA e s).1) : Nat), (WireM.val (nl (gB e s).1) : Nat), (WireM.val (nl (gC e s).1) : Nat), (gX e s).1⟩
def getOf (e : Int) (s : ByteArray) : PkV × Int × ByteArray :=
  if (gX e s).2.1 = 0 then (if PkOk (gP e s) then (gP e s, 0, (gX e s).2.2) else (PkV.zero, 5, (gX e s).2.2)) else (PkV.zero, (gX e s).2.1, (gX e s).2.2)
/-- a packet in memory -/
structure PB (w : World) (H : Nat) (f q t : Int) (d : ByteArray) : Prop where
  blk : w.heap[H]? = some (.cells #[.int .i64 f, .int .u64 q, .int .u64 t, .string d] 51 (0, 0))
section
variable {w : World} {H : Nat} {f q t : Int} {d : ByteArray} (h : PB w H f q t d)
include h
theorem PB.c0 : w.cell? ⟨H, 0, none⟩ = some (.int .i64 f) := Kq.blk_cell h.blk 0
theorem PB.c1 : w.cell? ⟨H, 1, none⟩ = some (.int .u64 q) := Kq.blk_cell h.blk 1
theorem PB.c2 : w.cell? ⟨H, 2, none⟩ = some (.int .u64 t) := Kq.blk_cell h.blk 2
theorem PB.c3 : w.cell? ⟨H, 3, none⟩ = some (.string d) := Kq.blk_cell h.blk 3
theorem PB.fz (i : Nat) : w.frozen? ⟨H, i, none⟩ = false := Kq.blk_free h.blk i
theorem PB.s0 (x : Int) : PB (w.setCell ⟨H, 0, none⟩ (.int .i64 x)) H x q t d := ⟨Kq.blk_set h.blk 0 _⟩
theorem PB.s1 (x : Int) : PB (w.setCell ⟨H, 1, none⟩ (.int .u64 x)) H f x t d := ⟨Kq.blk_set h.blk 1 _⟩
theorem PB.s2 (x : Int) : PB (w.setCell ⟨H, 2, none⟩ (.int .u64 x)) H f q x d := ⟨Kq.blk_set h.blk 2 _⟩
theorem PB.s3 (x : ByteArray) : PB (w.setCell ⟨H, 3, none⟩ (.string x)) H f q t x := ⟨Kq.blk_set h.blk 3 _⟩
theorem PB.later {S : Nat → Prop} {w' : World} (hk : Kq.Keeps S w w') (hS : ¬ S H) : PB w' H f q t d := ⟨hk.blk h.blk hS⟩
end
theorem Rd.later {S : Nat → Prop} {w w' : World} {B : Nat} {e : Int} {s : ByteArray} (h : Rd w B e s) (hk : Kq.Keeps S w w') (hS : ¬ S B) : Rd w' B e s := hk.blk h hS
/-- while a packet is got: the reader, the packet, the result's block, what is kept -/
structure Gt (w0 : World) (B H R : Nat) (e : Int) (s : ByteArray) (f q t : Int) (d : ByteArray) (w : World) : Prop where
  rd : Rd w B e s
  pb : PB w H f q t d
  rb : PB w R 0 0 0 ⟨#[]⟩
  ne : B ≠ H
  ne2 : B ≠ R
  ne3 : R ≠ H
  sz : s.size ≤ maxLen
  keeps : Kq.Keeps (fun k => k = B ∨ k = H) w0 w
theorem Gt.read {w0 w w' : World} {B H R : Nat} {e e' : Int} {s s' : ByteArray} {f q t : Int} {d : ByteArray} (h : Gt w0 B H R e s f q t d w) (hr : Rd w' B e' s') (hs : s'.size ≤ maxLen) (hk : Kq.Keeps (· = B) w w') : Gt w0 B H R e' s' f q t d w' :=
  ⟨hr, h.pb.later hk (fun e => h.ne e.symm), h.rb.later hk (fun e => h.ne2 e.symm), h.ne, h.ne2, h.ne3, hs, h.keeps.trans (hk.mono (fun k _ hk => Or.inl hk))⟩
theorem Gt.below {w0 w w' : World} {B H R : Nat} {e : Int} {s : ByteArray} {f q t : Int} {d : ByteArray} (h : Gt w0 B H R e s f q t d w) (hb : Below w.heap.size w w') : Gt w0 B H R e s f q t d w' :=
  have hk : Kq.Keeps (fun _ => False) w w' := Kq.Keeps.of_below hb (fun k h1 h2 => absurd h1 (Nat.not_le.2 h2))
  ⟨h.rd.later hk id, h.pb.later hk id, h.rb.later hk id, h.ne, h.ne2, h.ne3, h.sz, h.keeps.trans (hk.mono (fun k _ hk => hk.elim))⟩
theorem Gt.set {w0 w : World} {B H R : Nat} {e : Int} {s : ByteArray} {f q t f' q' t' : Int} {d d' : ByteArray} (h : Gt w0 B H R e s f q t d w) (i : Nat) (v : Value) (hp : PB (w.setCell ⟨H, i, none⟩ v) H f' q' t' d') : Gt w0 B H R e s f' q' t' d' (w.setCell ⟨H, i, none⟩ v) :=
  have hk : Kq.Keeps (· = H) w (w.setCell ⟨H, i, none⟩ v) := Kq.Keeps.setCell _ _ _ rfl
  ⟨h.rd.later hk h.ne, hp, h.rb.later hk h.ne3, h.ne, h.ne2, h.ne3, h.sz, h.keeps.trans (hk.mono (fun k _ hk => Or.inr hk))⟩
def GetPost (w : World) (B : Nat) (e : Int) (s : ByteArray) (x : Ending) (w' : World) : Prop :=
  x = .returned (getOf e s).1.val ∧ Rd w' B (getOf e s).2.1 (getOf e s).2.2 ∧ Kq.Keeps (· = B) w w'
/-- the result's block is filled -/
def filled (w : World) (R : Nat) (a b c : Int) (x : ByteArray) : World := (((w.setCell ⟨R, 0, none⟩ (.int .i64 a)).setCell ⟨R, 1, none⟩ (.int .u64 b)).setCell ⟨R, 2, none⟩ (.int .u64 c)).setCell ⟨R, 3, none⟩ (.string x)
theorem filled_keeps (w : World) (R : Nat) (a b c : Int) (x : ByteArray) : Kq.Keeps (· = R) w (filled w R a b c x) := by
  unfold filled
  have k1 := Kq.Keeps.setCell (S := (· = R)) w ⟨R, 0, none⟩ (.int .i64 a) rfl
  have k2 := Kq.Keeps.setCell (S := (· = R)) (w.setCell ⟨R, 0, none⟩ (.int .i64 a)) ⟨R, 1, none⟩ (.int .u64 b) rfl
  have k3 := Kq.Keeps.setCell (S := (· = R)) ((w.setCell ⟨R, 0, none⟩ (.int .i64 a)).setCell ⟨R, 1, none⟩ (.int .u64 b)) ⟨R, 2, none⟩ (.int .u64 c) rfl
  have k4 := Kq.Keeps.setCell (S := (· = R)) (((w.setCell ⟨R, 0, none⟩ (.int .i64 a)).setCell ⟨R, 1, none⟩ (.int .u64 b)).setCell ⟨R, 2, none⟩ (.int .u64 c)) ⟨R, 3, none⟩ (.string x) rfl
  exact ((k1.trans k2).trans k3).trans k4
theorem Gt.res {w0 w : World} {B H R : Nat} {e : Int} {s : ByteArray} {f q t : Int} {d : ByteArray} (h : Gt w0 B H R e s f q t d w) (a b c : Int) (x : ByteArray) :
    PB (filled w R a b c x) R a b c x ∧ Rd (filled w R a b c x) B e s ∧ Kq.Keeps (fun k => k = B ∨ k = H ∨ k = R) w0 (filled w R a b c x) :=
  ⟨(((h.rb.s0 a).s1 b).s2 c).s3 x, h.rd.later (filled_keeps w R a b c x) h.ne2, (h.keeps.mono (fun k _ hk => hk.imp id Or.inl)).trans ((filled_keeps w R a b c x).mono (fun k _ hk => Or.inr (Or.inr hk)))⟩
theorem keeps_two {w w' : World} {o o' : Obj} {B H R : Nat} (h : Kq.Keeps (fun k => k = B ∨ k = H ∨ k = R) ((w.alloc o).alloc o') w') (hH : w.heap.size ≤ H) (hR : w.heap.size ≤ R) : Kq.Keeps (· = B) w w' := by
  have hb : Below w.heap.size w ((w.alloc o).alloc o') := (Kq.below_alloc w o).trans ((Kq.below_alloc _ o').mono (Kq.below_alloc w o).size)
  exact ⟨h.os.trans hb.os, h.tape.trans hb.tape, h.output.trans hb.output, Nat.le_trans hb.size h.size, fun k hk hn => by
    rw [h.block k (Nat.lt_of_lt_of_le hk hb.size) (fun hh => by rcases hh with hh | hh | hh; exact hn hh; omega; omega)]
    exact hb.block k hk⟩
set_option maxRecDepth 100000 in
set_option maxHeartbeats 4000000 in
theorem pk_get (B : Nat) (e : Int) (s : ByteArray) (w : World) (h : Rd w B e s) (hs : s.size ≤ maxLen) :
    Calls Try.prog 90 #[.pointer (some ⟨B, 0, none⟩)] w (GetPost w B e s) := by
  have hB : B < w.heap.size := Kq.blk_lt h
  have H0 : Hid (Gt ((w.alloc (Obj.cells #[Value.int IntKind.i64 0, Value.int IntKind.u64 0, Value.int IntKind.u64 0, Value.string ⟨#[]⟩] 51)).alloc (Obj.cells #[Value.int IntKind.i64 0, Value.int IntKind.u64 0, Value.int IntKind.u64 0, Value.string ⟨#[]⟩] 51)) B (w.heap.size + 1) w.heap.size e s 0 0 0 ⟨#[]⟩ ((w.alloc (Obj.cells #[Value.int IntKind.i64 0, Value.int IntKind.u64 0, Value.int IntKind.u64 0, Value.string ⟨#[]⟩] 51)).alloc (Obj.cells #[Value.int IntKind.i64 0, Value.int IntKind.u64 0, Value.int IntKind.u64 0, Value.string ⟨#[]⟩] 51))) :=
    Lib.hid ⟨(h.later (Kq.Keeps.alloc (fun _ => False) w _) id).later (Kq.Keeps.alloc (fun _ => False) _ _) id, ⟨by have := Kq.blk_new (w.alloc (Obj.cells #[Value.int IntKind.i64 0, Value.int IntKind.u64 0, Value.int IntKind.u64 0, Value.string ⟨#[]⟩] 51)) #[Value.int IntKind.i64 0, Value.int IntKind.u64 0, Value.int IntKind.u64 0, Value.string ⟨#[]⟩] 51 (0, 0); rw [World.size_alloc] at this; exact this⟩,
      ⟨by rw [Below.heap_alloc _ _ _ (by simp)]; exact Kq.blk_new _ _ _ _⟩, by omega, by omega, by omega, hs, Kq.Keeps.refl _ _⟩
  clear h hs hB
  go_enter Try.func90, Try.ntmps90
  go_wp2_with fail
  refine (rd_byte B e s _ H0.out.rd H0.out.sz).mono ?_
  rintro x w1 ⟨rfl, R1, K1⟩
  have H1 : Hid (Gt _ B (w.heap.size + 1) w.heap.size (gA e s).2.1 (gA e s).2.2 0 0 0 ⟨#[]⟩ w1) := Lib.hid (H0.out.read R1 (Nat.le_trans (raw_left_size e s _) H0.out.sz) K1)
  clear R1 K1 H0
  have c0 := H1.out.pb.c0
  have f0 := H1.out.pb.fz 0
  obtain ⟨v1, hv1⟩ : ∃ v : Nat, v = WireM.val (nl (gA e s).1) := ⟨_, rfl⟩
  have hv1' : WireM.val (nl (WireM.raw e s ((1 : Nat) : Int)).1) = v1 := hv1.symm
  rw [hv1']
  clear hv1'
  have HV1 := Lib.hid hv1
  clear hv1
  go_wp2_with fail
  have H2 := Lib.hid (H1.out.set 0 _ (H1.out.pb.s0 (v1 : Int)))
  clear c0 f0 H1
  refine (rd_number B (gA e s).2.1 (gA e s).2.2 _ H2.out.rd H2.out.sz).mono ?_
  rintro x w2 ⟨rfl, R2, K2⟩
  have H3 : Hid (Gt _ B (w.heap.size + 1) w.heap.size (gB e s).2.1 (gB e s).2.2 v1 0 0 ⟨#[]⟩ w2) := Lib.hid (H2.out.read R2 (Nat.le_trans (raw_left_size _ _ _) H2.out.sz) K2)
  clear R2 K2 H2
  have c0 := H3.out.pb.c1
  have f0 := H3.out.pb.fz 1
  obtain ⟨v2, hv2⟩ : ∃ v : Nat, v = WireM.val (nl (gB e s).1) := ⟨_, rfl⟩
  have hv2' : WireM.val (nl (WireM.raw (gA e s).2.1 (gA e s).2.2 ((8 : Nat) : Int)).1) = v2 := hv2.symm
  rw [hv2']
  clear hv2'
  have HV2 := Lib.hid hv2
  clear hv2
  go_wp2_with fail
  have H4 := Lib.hid (H3.out.set 1 _ (H3.out.pb.s1 (v2 : Int)))
  clear c0 f0 H3
  refine (rd_number B (gB e s).2.1 (gB e s).2.2 _ H4.out.rd H4.out.sz).mono ?_
  rintro x w3 ⟨rfl, R3, K3⟩
  have H5 : Hid (Gt _ B (w.heap.size + 1) w.heap.size (gC e s).2.1 (gC e s).2.2 v1 v2 0 ⟨#[]⟩ w3) := Lib.hid (H4.out.read R3 (Nat.le_trans (raw_left_size _ _ _) H4.out.sz) K3)
  clear R3 K3 H4
  have c0 := H5.out.pb.c2
  have f0 := H5.out.pb.fz 2
  obtain ⟨v3, hv3⟩ : ∃ v : Nat, v = WireM.val (nl (gC e s).1) := ⟨_, rfl⟩
  have hv3' : WireM.val (nl (WireM.raw (gB e s).2.1 (gB e s).2.2 ((8 : Nat) : Int)).1) = v3 := hv3.symm
  rw [hv3']
  clear hv3'
  have HV3 := Lib.hid hv3
  clear hv3
  go_wp2_with fail
  have H6 := Lib.hid (H5.out.set 2 _ (H5.out.pb.s2 (v3 : Int)))
  clear c0 f0 H5
  refine (rd_text B (gC e s).2.1 (gC e s).2.2 _ H6.out.rd H6.out.sz).mono ?_
  intro x w4 hp
  obtain ⟨rfl, R4, K4⟩ : x = .returned (.string (gX e s).1) ∧ Rd w4 B (gX e s).2.1 (gX e s).2.2 ∧ Kq.Keeps (· = B) _ w4 := hp
  have hz4 : (gX e s).2.2.size ≤ maxLen := Nat.le_trans (raw_left_size _ _ _) (Nat.le_trans (raw_left_size _ _ _) H6.out.sz)
  have H7 : Hid (Gt _ B (w.heap.size + 1) w.heap.size (gX e s).2.1 (gX e s).2.2 v1 v2 v3 ⟨#[]⟩ w4) := Lib.hid (H6.out.read R4 hz4 K4)
  clear R4 K4 H6 hz4
  have c0 := H7.out.pb.c3
  have f0 := H7.out.pb.fz 3
  obtain ⟨e5, he5⟩ : ∃ e5, e5 = (gX e s).2.1 := ⟨_, rfl⟩
  obtain ⟨s5, hs5⟩ : ∃ s5, s5 = (gX e s).2.2 := ⟨_, rfl⟩
  obtain ⟨d5, hd5⟩ : ∃ d5, d5 = (gX e s).1 := ⟨_, rfl⟩
  rw [← he5, ← hs5] at H7
  rw [← hd5]
  have HG : Hid (getOf e s = if e5 = 0 then (if PkOk ⟨v1, v2, v3, d5⟩ then (⟨v1, v2, v3, d5⟩, 0, s5) else (PkV.zero, 5, s5)) else (PkV.zero, e5, s5)) := Lib.hid (by
    rw [he5, hs5, hd5, HV1.out, HV2.out, HV3.out]; rfl)
  clear he5 hs5 hd5 HV1 HV2 HV3
  go_wp2_with fail
  have H8 := Lib.hid (H7.out.set 3 _ (H7.out.pb.s3 d5))
  clear c0 f0 H7
  by_cases he : e5 = 0
  · subst he
    refine (mem_err B 0 _ H8.out.rd.c0).mono ?_
    rintro x w5 ⟨rfl, rfl⟩
    obtain ⟨w6, hw6⟩ : ∃ w6, w6 = w4.setCell ⟨w.heap.size + 1, 3, none⟩ (.string d5) := ⟨_, rfl⟩
    rw [← hw6] at H8 ⊢
    clear hw6
    have c0 := H8.out.pb.c0
    have c1 := H8.out.pb.c1
    have c2 := H8.out.pb.c2
    have c3 := H8.out.pb.c3
    by_cases hok : PkOk ⟨v1, v2, v3, d5⟩
    · have HG2 : Hid (getOf e s = (⟨v1, v2, v3, d5⟩, 0, s5)) := Lib.hid (by rw [HG.out, if_pos rfl, if_pos hok])
      have HOK := Lib.hid hok
      clear HG hok
      go_wp2_with fail
      refine (pk_check_ok _ _ _ _ _ HOK.out).mono ?_
      rintro x w7 ⟨rfl, b7⟩
      have H9 := Lib.hid (H8.out.below b7)
      clear b7 c0 c1 c2 c3 H8
      go_wp2_with fail
      refine (mem_err B 0 _ H9.out.rd.c0).mono ?_
      rintro x w8 ⟨rfl, rfl⟩
      have c0 := H9.out.pb.c0
      have c1 := H9.out.pb.c1
      have c2 := H9.out.pb.c2
      have c3 := H9.out.pb.c3
      have r0 := H9.out.rb.c0
      have r1 := H9.out.rb.c1
      have r2 := H9.out.rb.c2
      have r3 := H9.out.rb.c3
      have g0 := H9.out.rb.fz 0
      have g1 := H9.out.rb.fz 1
      have g2 := H9.out.rb.fz 2
      have g3 := H9.out.rb.fz 3
      go_wp2
      obtain ⟨p1, p2, p3⟩ := H9.out.res (v1 : Int) (v2 : Int) (v3 : Int) d5
      obtain ⟨Wf, hWf⟩ : ∃ Wf, Wf = filled w7 w.heap.size (v1 : Int) (v2 : Int) (v3 : Int) d5 := ⟨_, rfl⟩
      change bodyPost _ _ _ _ _ (filled w7 w.heap.size (v1 : Int) (v2 : Int) (v3 : Int) d5)
      rw [← hWf] at p1 p2 p3 ⊢
      have z0 := p1.c0
      have z1 := p1.c1
      have z2 := p1.c2
      have z3 := p1.c3
      refine bodyPost_ret (v := .agg #[.int .i64 (v1 : Int), .int .u64 (v2 : Int), .int .u64 (v3 : Int), .string d5]) (by simp [results, Try.results90, go_sem, z0, z1, z2, z3]) rfl ?_
      unfold GetPost
      rw [HG2.out]
      exact ⟨rfl, p2, keeps_two p3 (by omega) (by omega)⟩
    · have HG2 : Hid (getOf e s = (PkV.zero, 5, s5)) := Lib.hid (by rw [HG.out, if_pos rfl, if_neg hok])
      have HOK := Lib.hid hok
      clear HG hok
      go_wp2_with fail
      refine (pk_check_bad _ _ _ _ _ HOK.out).mono ?_
      rintro x w7 ⟨rfl, b7⟩
      have H9 := Lib.hid (H8.out.below b7)
      clear b7 c0 c1 c2 c3 H8
      go_wp2_with fail
      refine (rd_fail B 0 5 s5 _ H9.out.rd).mono ?_
      rintro x w8 ⟨rfl, R8, K8⟩
      rw [if_pos rfl] at R8
      have H10 := Lib.hid (H9.out.read R8 H9.out.sz K8)
      clear R8 K8 H9
      go_wp2_with fail
      refine (mem_err B 5 _ H10.out.rd.c0).mono ?_
      rintro x w9 ⟨rfl, rfl⟩
      have r0 := H10.out.rb.c0
      have r1 := H10.out.rb.c1
      have r2 := H10.out.rb.c2
      have r3 := H10.out.rb.c3
      have g0 := H10.out.rb.fz 0
      have g1 := H10.out.rb.fz 1
      have g2 := H10.out.rb.fz 2
      have g3 := H10.out.rb.fz 3
      go_wp2
      obtain ⟨p1, p2, p3⟩ := H10.out.res 0 0 0 ⟨#[]⟩
      obtain ⟨Wf, hWf⟩ : ∃ Wf, Wf = filled w8 w.heap.size 0 0 0 ⟨#[]⟩ := ⟨_, rfl⟩
      change bodyPost _ _ _ _ _ (filled w8 w.heap.size 0 0 0 ⟨#[]⟩)
      rw [← hWf] at p1 p2 p3 ⊢
      have z0 := p1.c0
      have z1 := p1.c1
      have z2 := p1.c2
      have z3 := p1.c3
      refine bodyPost_ret (v := .agg #[.int .i64 0, .int .u64 0, .int .u64 0, .string ⟨#[]⟩]) (by simp [results, Try.results90, go_sem, z0, z1, z2, z3]) rfl ?_
      unfold GetPost
      rw [HG2.out]
      exact ⟨rfl, p2, keeps_two p3 (by omega) (by omega)⟩
  · have HG2 : Hid (getOf e s = (PkV.zero, e5, s5)) := Lib.hid (by rw [HG.out, if_neg he])
    have he1 : (e5 == 0) = false := by simpa using he
    have he2 : (e5 != 0) = true := by simpa using he
    clear he HG
    refine (mem_err B e5 _ H8.out.rd.c0).mono ?_
    rintro x w5 ⟨rfl, rfl⟩
    obtain ⟨w6, hw6⟩ : ∃ w6, w6 = w4.setCell ⟨w.heap.size + 1, 3, none⟩ (.string d5) := ⟨_, rfl⟩
    rw [← hw6] at H8 ⊢
    clear hw6
    go_wp2_with fail
    refine (mem_err B e5 _ H8.out.rd.c0).mono ?_
    rintro x w7 ⟨rfl, rfl⟩
    have r0 := H8.out.rb.c0
    have r1 := H8.out.rb.c1
    have r2 := H8.out.rb.c2
    have r3 := H8.out.rb.c3
    have g0 := H8.out.rb.fz 0
    have g1 := H8.out.rb.fz 1
    have g2 := H8.out.rb.fz 2
    have g3 := H8.out.rb.fz 3
    go_wp2
    obtain ⟨p1, p2, p3⟩ := H8.out.res 0 0 0 ⟨#[]⟩
    obtain ⟨Wf, hWf⟩ : ∃ Wf, Wf = filled w6 w.heap.size 0 0 0 ⟨#[]⟩ := ⟨_, rfl⟩
    change bodyPost _ _ _ _ _ (filled w6 w.heap.size 0 0 0 ⟨#[]⟩)
    rw [← hWf] at p1 p2 p3 ⊢
    have z0 := p1.c0
    have z1 := p1.c1
    have z2 := p1.c2
    have z3 := p1.c3
    refine bodyPost_ret (v := .agg #[.int .i64 0, .int .u64 0, .int .u64 0, .string ⟨#[]⟩]) (by simp [results, Try.results90, go_sem, z0, z1, z2, z3]) rfl ?_
    unfold GetPost
    rw [HG2.out]
    exact ⟨rfl, p2, keeps_two p3 (by omega) (by omega)⟩
end Go.Proofs.Ytkbiolhcpghmkaa
