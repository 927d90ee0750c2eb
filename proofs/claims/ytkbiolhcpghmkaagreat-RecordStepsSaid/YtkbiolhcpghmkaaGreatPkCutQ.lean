/- Merged: PkKey, PkSeqM, PkGet, PkPut, PkM, PkCut. Contracts of packet's keys. No condition. Small lemmas on a reader of eight bytes; a reader that is new. No condition. Contract of packet.Get. Condition: lengths are ints. Contracts of packet.Put, packet.Bytes. Condition: a packet's data is not too long. Plain mathematics: a packet got of a text, place by place. No condition. Plain mathematics: a packet's bytes are told by themselves. No condition. -/
import Derived.WalkSpells
import Derived.Outline
import Derived.Test.YtkbiolhcpghmkaaGreatBetwQ
import Derived.Test.YtkbiolhcpghmkaaGreatRefValQ
namespace Go.Proofs.YtkbiolhcpghmkaaGreat
open Go.RowKit
set_option linter.unusedVariables false
/-- a key: a letter, a number -/
def keyT (c n : Nat) : ByteArray := txt (c :: num8 n)
theorem keyT_size (c n : Nat) : (keyT c n).size = 9 := by unfold keyT; rw [txt_size]; rfl
theorem keyT_nl (c n : Nat) (hc : c < 256) : nl (keyT c n) = c :: num8 n :=
  nl_txt _ (by intro b hb; rcases List.mem_cons.1 hb with rfl | h; exact hc; exact num8_lt n b h)
theorem WrMid.fresh_own {w wr : World} {base B : Nat} {v : Value} {e : Int} {l : List Nat} (h : WrMid w base B (.slice none 0 0) e v l wr) : True := trivial
/-- packet.Sent, Received, Answered -/
theorem one_num (w : World) (n : Nat) : (w.alloc (.cells #[.int .u64 (n : Int)] 22)).cell? ⟨w.heap.size, 0, none⟩ = some (.int .u64 (n : Int)) := by simp
end Go.Proofs.YtkbiolhcpghmkaaGreat
namespace Go.Proofs.YtkbiolhcpghmkaaGreat
open Go.RowKit
set_option linter.unusedVariables false
theorem end_of (t : ByteArray) : endOf (WireM.raw 0 t (8 : Nat)).2.1 (WireM.raw 0 t (8 : Nat)).2.2 = if t.size = 8 then 0 else if t.size < 8 then 6 else 7 := by
  by_cases h : t.size < 8
  · have e : WireM.raw 0 t ((8 : Nat) : Int) = (⟨#[]⟩, 6, t) := by rw [WireM.raw_bad 0 t _ (Or.inr (by omega))]; rfl
    rw [e, if_neg (by omega), if_pos h]
    rfl
  · rw [WireM.raw_ok t 8 (by omega), if_neg h]
    unfold endOf
    simp only [if_true]
    have hz : (t.extract 8 t.size).size = t.size - 8 := by simp
    rw [hz]
    by_cases h8 : t.size = 8
    · rw [if_pos (by omega), if_pos h8]
    · rw [if_neg (by omega), if_neg h8]
theorem val_of (t : ByteArray) (h : t.size = 8) : WireM.val (nl (WireM.raw 0 t (8 : Nat)).1) = WireM.val (nl t) := by
  rw [WireM.raw_ok t 8 (by omega)]
  congr 1
  show nl (t.extract 0 8) = nl t
  rw [nl_extract, List.drop_zero, List.take_of_length_le (by rw [nl_length]; omega)]
theorem rd_fresh {w w' : World} {S : Nat → Prop} (h : Kq.Keeps S w w') (hS : ∀ k, S k → w.heap.size ≤ k) (B : Nat) (hB : B ≤ w.heap.size) : Below B w w' :=
  h.below hB (fun k _ hk => Nat.le_trans hB (hS k hk))
end Go.Proofs.YtkbiolhcpghmkaaGreat
namespace Go.Proofs.YtkbiolhcpghmkaaGreat
open Go.RowKit
set_option linter.unusedVariables false
def PkV.zero : PkV := ⟨0, 0, 0, ⟨#[]⟩⟩
/-- what is read, field by field -/
def gA (e : Int) (s : ByteArray) := WireM.raw e s ((1 : Nat) : Int)
def gB (e : Int) (s : ByteArray) := WireM.raw (gA e s).2.1 (gA e s).2.2 ((8 : Nat) : Int)
def gC (e : Int) (s : ByteArray) := WireM.raw (gB e s).2.1 (gB e s).2.2 ((8 : Nat) : Int)
def gD (e : Int) (s : ByteArray) := WireM.raw (gC e s).2.1 (gC e s).2.2 ((2 : Nat) : Int)
def gX (e : Int) (s : ByteArray) := WireM.raw (gD e s).2.1 (gD e s).2.2 ((WireM.val (nl (gD e s).1) : Nat) : Int)
def gP (e : Int) (s : ByteArray) : PkV := ⟨(WireM.val (nl (gA e s).1) : Nat), (WireM.val (nl (gB e s).1) : Nat), (WireM.val (nl (gC e s).1) : Nat), (gX e s).1⟩
def getOf (e : Int) (s : ByteArray) : PkV × Int × ByteArray :=
  if (gX e s).2.1 = 0 then (if PkOk (gP e s) then (gP e s, 0, (gX e s).2.2) else (PkV.zero, 5, (gX e s).2.2)) else (PkV.zero, (gX e s).2.1, (gX e s).2.2)
/-- a packet in memory -/
structure PB (w : World) (H : Nat) (f q t : Int) (d : ByteArray) : Prop where
  blk : w.heap[H]? = some (.cells #[.int .i64 f, .int .u64 q, .int .u64 t, .string d] 44 (0, 0))
section
variable {w : World} {H : Nat} {f q t : Int} {d : ByteArray} (h : PB w H f q t d)
include h
theorem PB.c0 : w.cell? ⟨H, 0, none⟩ = some (.int .i64 f) := Kq.blk_cell h.blk 0
theorem PB.c1 : w.cell? ⟨H, 1, none⟩ = some (.int .u64 q) := Kq.blk_cell h.blk 1
theorem PB.c2 : w.cell? ⟨H, 2, none⟩ = some (.int .u64 t) := Kq.blk_cell h.blk 2
theorem PB.c3 : w.cell? ⟨H, 3, none⟩ = some (.string d) := Kq.blk_cell h.blk 3
theorem PB.fz (i : Nat) : w.frozen? ⟨H, i, none⟩ = false := Kq.blk_free h.blk i
theorem PB.s0 (x : Int) : PB (w.setCell ⟨H, 0, none⟩ (.int .i64 x)) H x q t d := ⟨Kq.blk_set h.blk 0 _⟩
theorem PB.s1 (x : Int) : PB (w.setCell ⟨H, 1, none⟩ (.int .u64 x)) H f x t d := ⟨Kq.blk_set h.blk 1 _⟩
theorem PB.s2 (x : Int) : PB (w.setCell ⟨H, 2, none⟩ (.int .u64 x)) H f q x d := ⟨Kq.blk_set h.blk 2 _⟩
theorem PB.s3 (x : ByteArray) : PB (w.setCell ⟨H, 3, none⟩ (.string x)) H f q t x := ⟨Kq.blk_set h.blk 3 _⟩
theorem PB.later {S : Nat → Prop} {w' : World} (hk : Kq.Keeps S w w') (hS : ¬ S H) : PB w' H f q t d := ⟨hk.blk h.blk hS⟩
end
theorem Rd.later {S : Nat → Prop} {w w' : World} {B : Nat} {e : Int} {s : ByteArray} (h : Rd w B e s) (hk : Kq.Keeps S w w') (hS : ¬ S B) : Rd w' B e s := hk.blk h hS
/-- while a packet is got: the reader, the packet, the result's block, what is kept -/
structure Gt (w0 : World) (B H R : Nat) (e : Int) (s : ByteArray) (f q t : Int) (d : ByteArray) (w : World) : Prop where
  rd : Rd w B e s
  pb : PB w H f q t d
  rb : PB w R 0 0 0 ⟨#[]⟩
  ne : B ≠ H
  ne2 : B ≠ R
  ne3 : R ≠ H
  sz : s.size ≤ maxLen
  keeps : Kq.Keeps (fun k => k = B ∨ k = H) w0 w
theorem Gt.read {w0 w w' : World} {B H R : Nat} {e e' : Int} {s s' : ByteArray} {f q t : Int} {d : ByteArray} (h : Gt w0 B H R e s f q t d w) (hr : Rd w' B e' s') (hs : s'.size ≤ maxLen) (hk : Kq.Keeps (· = B) w w') : Gt w0 B H R e' s' f q t d w' :=
  ⟨hr, h.pb.later hk (fun e => h.ne e.symm), h.rb.later hk (fun e => h.ne2 e.symm), h.ne, h.ne2, h.ne3, hs, h.keeps.trans (hk.mono (fun k _ hk => Or.inl hk))⟩
theorem Gt.below {w0 w w' : World} {B H R : Nat} {e : Int} {s : ByteArray} {f q t : Int} {d : ByteArray} (h : Gt w0 B H R e s f q t d w) (hb : Below w.heap.size w w') : Gt w0 B H R e s f q t d w' :=
  have hk : Kq.Keeps (fun _ => False) w w' := Kq.Keeps.of_below hb (fun k h1 h2 => absurd h1 (Nat.not_le.2 h2))
  ⟨h.rd.later hk id, h.pb.later hk id, h.rb.later hk id, h.ne, h.ne2, h.ne3, h.sz, h.keeps.trans (hk.mono (fun k _ hk => hk.elim))⟩
theorem Gt.set {w0 w : World} {B H R : Nat} {e : Int} {s : ByteArray} {f q t f' q' t' : Int} {d d' : ByteArray} (h : Gt w0 B H R e s f q t d w) (i : Nat) (v : Value) (hp : PB (w.setCell ⟨H, i, none⟩ v) H f' q' t' d') : Gt w0 B H R e s f' q' t' d' (w.setCell ⟨H, i, none⟩ v) :=
  have hk : Kq.Keeps (· = H) w (w.setCell ⟨H, i, none⟩ v) := Kq.Keeps.setCell _ _ _ rfl
  ⟨h.rd.later hk h.ne, hp, h.rb.later hk h.ne3, h.ne, h.ne2, h.ne3, h.sz, h.keeps.trans (hk.mono (fun k _ hk => Or.inr hk))⟩
def GetPost (w : World) (B : Nat) (e : Int) (s : ByteArray) (x : Ending) (w' : World) : Prop :=
  x = .returned (getOf e s).1.val ∧ Rd w' B (getOf e s).2.1 (getOf e s).2.2 ∧ Kq.Keeps (· = B) w w'
/-- the result's block is filled -/
def filled (w : World) (R : Nat) (a b c : Int) (x : ByteArray) : World := (((w.setCell ⟨R, 0, none⟩ (.int .i64 a)).setCell ⟨R, 1, none⟩ (.int .u64 b)).setCell ⟨R, 2, none⟩ (.int .u64 c)).setCell ⟨R, 3, none⟩ (.string x)
theorem filled_keeps (w : World) (R : Nat) (a b c : Int) (x : ByteArray) : Kq.Keeps (· = R) w (filled w R a b c x) := by
  unfold filled
  have k1 := Kq.Keeps.setCell (S := (· = R)) w ⟨R, 0, none⟩ (.int .i64 a) rfl
  have k2 := Kq.Keeps.setCell (S := (· = R)) (w.setCell ⟨R, 0, none⟩ (.int .i64 a)) ⟨R, 1, none⟩ (.int .u64 b) rfl
  have k3 := Kq.Keeps.setCell (S := (· = R)) ((w.setCell ⟨R, 0, none⟩ (.int .i64 a)).setCell ⟨R, 1, none⟩ (.int .u64 b)) ⟨R, 2, none⟩ (.int .u64 c) rfl
  have k4 := Kq.Keeps.setCell (S := (· = R)) (((w.setCell ⟨R, 0, none⟩ (.int .i64 a)).setCell ⟨R, 1, none⟩ (.int .u64 b)).setCell ⟨R, 2, none⟩ (.int .u64 c)) ⟨R, 3, none⟩ (.string x) rfl
  exact ((k1.trans k2).trans k3).trans k4
theorem Gt.res {w0 w : World} {B H R : Nat} {e : Int} {s : ByteArray} {f q t : Int} {d : ByteArray} (h : Gt w0 B H R e s f q t d w) (a b c : Int) (x : ByteArray) :
    PB (filled w R a b c x) R a b c x ∧ Rd (filled w R a b c x) B e s ∧ Kq.Keeps (fun k => k = B ∨ k = H ∨ k = R) w0 (filled w R a b c x) :=
  ⟨(((h.rb.s0 a).s1 b).s2 c).s3 x, h.rd.later (filled_keeps w R a b c x) h.ne2, (h.keeps.mono (fun k _ hk => hk.imp id Or.inl)).trans ((filled_keeps w R a b c x).mono (fun k _ hk => Or.inr (Or.inr hk)))⟩
theorem keeps_two {w w' : World} {o o' : Obj} {B H R : Nat} (h : Kq.Keeps (fun k => k = B ∨ k = H ∨ k = R) ((w.alloc o).alloc o') w') (hH : w.heap.size ≤ H) (hR : w.heap.size ≤ R) : Kq.Keeps (· = B) w w' := by
  have hb : Below w.heap.size w ((w.alloc o).alloc o') := (Kq.below_alloc w o).trans ((Kq.below_alloc _ o').mono (Kq.below_alloc w o).size)
  exact ⟨h.os.trans hb.os, h.tape.trans hb.tape, h.output.trans hb.output, Nat.le_trans hb.size h.size, fun k hk hn => by
    rw [h.block k (Nat.lt_of_lt_of_le hk hb.size) (fun hh => by rcases hh with hh | hh | hh; exact hn hh; omega; omega)]
    exact hb.block k hk⟩
set_option maxRecDepth 100000 in
set_option maxHeartbeats 4000000 in
theorem pk_get (B : Nat) (e : Int) (s : ByteArray) (w : World) (h : Rd w B e s) (hs : s.size ≤ maxLen) :
    Calls Tryz.prog 110 #[.pointer (some ⟨B, 0, none⟩)] w (GetPost w B e s) := by
  have hB : B < w.heap.size := Kq.blk_lt h
  have H0 : Hid (Gt ((w.alloc (Obj.cells #[Value.int IntKind.i64 0, Value.int IntKind.u64 0, Value.int IntKind.u64 0, Value.string ⟨#[]⟩] 44)).alloc (Obj.cells #[Value.int IntKind.i64 0, Value.int IntKind.u64 0, Value.int IntKind.u64 0, Value.string ⟨#[]⟩] 44)) B (w.heap.size + 1) w.heap.size e s 0 0 0 ⟨#[]⟩ ((w.alloc (Obj.cells #[Value.int IntKind.i64 0, Value.int IntKind.u64 0, Value.int IntKind.u64 0, Value.string ⟨#[]⟩] 44)).alloc (Obj.cells #[Value.int IntKind.i64 0, Value.int IntKind.u64 0, Value.int IntKind.u64 0, Value.string ⟨#[]⟩] 44))) :=
    Lib.hid ⟨(h.later (Kq.Keeps.alloc (fun _ => False) w _) id).later (Kq.Keeps.alloc (fun _ => False) _ _) id, ⟨by have := Kq.blk_new (w.alloc (Obj.cells #[Value.int IntKind.i64 0, Value.int IntKind.u64 0, Value.int IntKind.u64 0, Value.string ⟨#[]⟩] 44)) #[Value.int IntKind.i64 0, Value.int IntKind.u64 0, Value.int IntKind.u64 0, Value.string ⟨#[]⟩] 44 (0, 0); rw [World.size_alloc] at this; exact this⟩,
      ⟨by rw [Below.heap_alloc _ _ _ (by simp)]; exact Kq.blk_new _ _ _ _⟩, by omega, by omega, by omega, hs, Kq.Keeps.refl _ _⟩
  clear h hs hB
  go_enter Tryz.func110, Tryz.ntmps110
  go_wp2_with fail
  refine (rd_byte B e s _ H0.out.rd H0.out.sz).mono ?_
  rintro x w1 ⟨rfl, R1, K1⟩
  have H1 : Hid (Gt _ B (w.heap.size + 1) w.heap.size (gA e s).2.1 (gA e s).2.2 0 0 0 ⟨#[]⟩ w1) := Lib.hid (H0.out.read R1 (Nat.le_trans (raw_left_size e s _) H0.out.sz) K1)
  clear R1 K1 H0
  have c0 := H1.out.pb.c0
  have f0 := H1.out.pb.fz 0
  obtain ⟨v1, hv1⟩ : ∃ v : Nat, v = WireM.val (nl (gA e s).1) := ⟨_, rfl⟩
  have hv1' : WireM.val (nl (WireM.raw e s ((1 : Nat) : Int)).1) = v1 := hv1.symm
  rw [hv1']
  clear hv1'
  have HV1 := Lib.hid hv1
  clear hv1
  go_wp2_with fail
  have H2 := Lib.hid (H1.out.set 0 _ (H1.out.pb.s0 (v1 : Int)))
  clear c0 f0 H1
  refine (rd_number B (gA e s).2.1 (gA e s).2.2 _ H2.out.rd H2.out.sz).mono ?_
  rintro x w2 ⟨rfl, R2, K2⟩
  have H3 : Hid (Gt _ B (w.heap.size + 1) w.heap.size (gB e s).2.1 (gB e s).2.2 v1 0 0 ⟨#[]⟩ w2) := Lib.hid (H2.out.read R2 (Nat.le_trans (raw_left_size _ _ _) H2.out.sz) K2)
  clear R2 K2 H2
  have c0 := H3.out.pb.c1
  have f0 := H3.out.pb.fz 1
  obtain ⟨v2, hv2⟩ : ∃ v : Nat, v = WireM.val (nl (gB e s).1) := ⟨_, rfl⟩
  have hv2' : WireM.val (nl (WireM.raw (gA e s).2.1 (gA e s).2.2 ((8 : Nat) : Int)).1) = v2 := hv2.symm
  rw [hv2']
  clear hv2'
  have HV2 := Lib.hid hv2
  clear hv2
  go_wp2_with fail
  have H4 := Lib.hid (H3.out.set 1 _ (H3.out.pb.s1 (v2 : Int)))
  clear c0 f0 H3
  refine (rd_number B (gB e s).2.1 (gB e s).2.2 _ H4.out.rd H4.out.sz).mono ?_
  rintro x w3 ⟨rfl, R3, K3⟩
  have H5 : Hid (Gt _ B (w.heap.size + 1) w.heap.size (gC e s).2.1 (gC e s).2.2 v1 v2 0 ⟨#[]⟩ w3) := Lib.hid (H4.out.read R3 (Nat.le_trans (raw_left_size _ _ _) H4.out.sz) K3)
  clear R3 K3 H4
  have c0 := H5.out.pb.c2
  have f0 := H5.out.pb.fz 2
  obtain ⟨v3, hv3⟩ : ∃ v : Nat, v = WireM.val (nl (gC e s).1) := ⟨_, rfl⟩
  have hv3' : WireM.val (nl (WireM.raw (gB e s).2.1 (gB e s).2.2 ((8 : Nat) : Int)).1) = v3 := hv3.symm
  rw [hv3']
  clear hv3'
  have HV3 := Lib.hid hv3
  clear hv3
  go_wp2_with fail
  have H6 := Lib.hid (H5.out.set 2 _ (H5.out.pb.s2 (v3 : Int)))
  clear c0 f0 H5
  refine (rd_text B (gC e s).2.1 (gC e s).2.2 _ H6.out.rd H6.out.sz).mono ?_
  intro x w4 hp
  obtain ⟨rfl, R4, K4⟩ : x = .returned (.string (gX e s).1) ∧ Rd w4 B (gX e s).2.1 (gX e s).2.2 ∧ Kq.Keeps (· = B) _ w4 := hp
  have hz4 : (gX e s).2.2.size ≤ maxLen := Nat.le_trans (raw_left_size _ _ _) (Nat.le_trans (raw_left_size _ _ _) H6.out.sz)
  have H7 : Hid (Gt _ B (w.heap.size + 1) w.heap.size (gX e s).2.1 (gX e s).2.2 v1 v2 v3 ⟨#[]⟩ w4) := Lib.hid (H6.out.read R4 hz4 K4)
  clear R4 K4 H6 hz4
  have c0 := H7.out.pb.c3
  have f0 := H7.out.pb.fz 3
  obtain ⟨e5, he5⟩ : ∃ e5, e5 = (gX e s).2.1 := ⟨_, rfl⟩
  obtain ⟨s5, hs5⟩ : ∃ s5, s5 = (gX e s).2.2 := ⟨_, rfl⟩
  obtain ⟨d5, hd5⟩ : ∃ d5, d5 = (gX e s).1 := ⟨_, rfl⟩
  rw [← he5, ← hs5] at H7
  rw [← hd5]
  have HG : Hid (getOf e s = if e5 = 0 then (if PkOk ⟨v1, v2, v3, d5⟩ then (⟨v1, v2, v3, d5⟩, 0, s5) else (PkV.zero, 5, s5)) else (PkV.zero, e5, s5)) := Lib.hid (by
    rw [he5, hs5, hd5, HV1.out, HV2.out, HV3.out]; rfl)
  clear he5 hs5 hd5 HV1 HV2 HV3
  go_wp2_with fail
  have H8 := Lib.hid (H7.out.set 3 _ (H7.out.pb.s3 d5))
  clear c0 f0 H7
  by_cases he : e5 = 0
  · subst he
    refine (mem_err B 0 _ H8.out.rd.c0).mono ?_
    rintro x w5 ⟨rfl, rfl⟩
    obtain ⟨w6, hw6⟩ : ∃ w6, w6 = w4.setCell ⟨w.heap.size + 1, 3, none⟩ (.string d5) := ⟨_, rfl⟩
    rw [← hw6] at H8 ⊢
    clear hw6
    have c0 := H8.out.pb.c0
    have c1 := H8.out.pb.c1
    have c2 := H8.out.pb.c2
    have c3 := H8.out.pb.c3
    by_cases hok : PkOk ⟨v1, v2, v3, d5⟩
    · have HG2 : Hid (getOf e s = (⟨v1, v2, v3, d5⟩, 0, s5)) := Lib.hid (by rw [HG.out, if_pos rfl, if_pos hok])
      have HOK := Lib.hid hok
      clear HG hok
      go_wp2_with fail
      refine (pk_check_ok _ _ _ _ _ HOK.out).mono ?_
      rintro x w7 ⟨rfl, b7⟩
      have H9 := Lib.hid (H8.out.below b7)
      clear b7 c0 c1 c2 c3 H8
      go_wp2_with fail
      refine (mem_err B 0 _ H9.out.rd.c0).mono ?_
      rintro x w8 ⟨rfl, rfl⟩
      have c0 := H9.out.pb.c0
      have c1 := H9.out.pb.c1
      have c2 := H9.out.pb.c2
      have c3 := H9.out.pb.c3
      have r0 := H9.out.rb.c0
      have r1 := H9.out.rb.c1
      have r2 := H9.out.rb.c2
      have r3 := H9.out.rb.c3
      have g0 := H9.out.rb.fz 0
      have g1 := H9.out.rb.fz 1
      have g2 := H9.out.rb.fz 2
      have g3 := H9.out.rb.fz 3
      go_wp2
      obtain ⟨p1, p2, p3⟩ := H9.out.res (v1 : Int) (v2 : Int) (v3 : Int) d5
      obtain ⟨Wf, hWf⟩ : ∃ Wf, Wf = filled w7 w.heap.size (v1 : Int) (v2 : Int) (v3 : Int) d5 := ⟨_, rfl⟩
      change bodyPost _ _ _ _ _ (filled w7 w.heap.size (v1 : Int) (v2 : Int) (v3 : Int) d5)
      rw [← hWf] at p1 p2 p3 ⊢
      have z0 := p1.c0
      have z1 := p1.c1
      have z2 := p1.c2
      have z3 := p1.c3
      refine bodyPost_ret (v := .agg #[.int .i64 (v1 : Int), .int .u64 (v2 : Int), .int .u64 (v3 : Int), .string d5]) (by simp [results, Tryz.results110, go_sem, z0, z1, z2, z3]) rfl ?_
      unfold GetPost
      rw [HG2.out]
      exact ⟨rfl, p2, keeps_two p3 (by omega) (by omega)⟩
    · have HG2 : Hid (getOf e s = (PkV.zero, 5, s5)) := Lib.hid (by rw [HG.out, if_pos rfl, if_neg hok])
      have HOK := Lib.hid hok
      clear HG hok
      go_wp2_with fail
      refine (pk_check_bad _ _ _ _ _ HOK.out).mono ?_
      rintro x w7 ⟨rfl, b7⟩
      have H9 := Lib.hid (H8.out.below b7)
      clear b7 c0 c1 c2 c3 H8
      go_wp2_with fail
      refine (rd_fail B 0 5 s5 _ H9.out.rd).mono ?_
      rintro x w8 ⟨rfl, R8, K8⟩
      rw [if_pos rfl] at R8
      have H10 := Lib.hid (H9.out.read R8 H9.out.sz K8)
      clear R8 K8 H9
      go_wp2_with fail
      refine (mem_err B 5 _ H10.out.rd.c0).mono ?_
      rintro x w9 ⟨rfl, rfl⟩
      have r0 := H10.out.rb.c0
      have r1 := H10.out.rb.c1
      have r2 := H10.out.rb.c2
      have r3 := H10.out.rb.c3
      have g0 := H10.out.rb.fz 0
      have g1 := H10.out.rb.fz 1
      have g2 := H10.out.rb.fz 2
      have g3 := H10.out.rb.fz 3
      go_wp2
      obtain ⟨p1, p2, p3⟩ := H10.out.res 0 0 0 ⟨#[]⟩
      obtain ⟨Wf, hWf⟩ : ∃ Wf, Wf = filled w8 w.heap.size 0 0 0 ⟨#[]⟩ := ⟨_, rfl⟩
      change bodyPost _ _ _ _ _ (filled w8 w.heap.size 0 0 0 ⟨#[]⟩)
      rw [← hWf] at p1 p2 p3 ⊢
      have z0 := p1.c0
      have z1 := p1.c1
      have z2 := p1.c2
      have z3 := p1.c3
      refine bodyPost_ret (v := .agg #[.int .i64 0, .int .u64 0, .int .u64 0, .string ⟨#[]⟩]) (by simp [results, Tryz.results110, go_sem, z0, z1, z2, z3]) rfl ?_
      unfold GetPost
      rw [HG2.out]
      exact ⟨rfl, p2, keeps_two p3 (by omega) (by omega)⟩
  · have HG2 : Hid (getOf e s = (PkV.zero, e5, s5)) := Lib.hid (by rw [HG.out, if_neg he])
    have he1 : (e5 == 0) = false := by simpa using he
    have he2 : (e5 != 0) = true := by simpa using he
    clear he HG
    refine (mem_err B e5 _ H8.out.rd.c0).mono ?_
    rintro x w5 ⟨rfl, rfl⟩
    obtain ⟨w6, hw6⟩ : ∃ w6, w6 = w4.setCell ⟨w.heap.size + 1, 3, none⟩ (.string d5) := ⟨_, rfl⟩
    rw [← hw6] at H8 ⊢
    clear hw6
    go_wp2_with fail
    refine (mem_err B e5 _ H8.out.rd.c0).mono ?_
    rintro x w7 ⟨rfl, rfl⟩
    have r0 := H8.out.rb.c0
    have r1 := H8.out.rb.c1
    have r2 := H8.out.rb.c2
    have r3 := H8.out.rb.c3
    have g0 := H8.out.rb.fz 0
    have g1 := H8.out.rb.fz 1
    have g2 := H8.out.rb.fz 2
    have g3 := H8.out.rb.fz 3
    go_wp2
    obtain ⟨p1, p2, p3⟩ := H8.out.res 0 0 0 ⟨#[]⟩
    obtain ⟨Wf, hWf⟩ : ∃ Wf, Wf = filled w6 w.heap.size 0 0 0 ⟨#[]⟩ := ⟨_, rfl⟩
    change bodyPost _ _ _ _ _ (filled w6 w.heap.size 0 0 0 ⟨#[]⟩)
    rw [← hWf] at p1 p2 p3 ⊢
    have z0 := p1.c0
    have z1 := p1.c1
    have z2 := p1.c2
    have z3 := p1.c3
    refine bodyPost_ret (v := .agg #[.int .i64 0, .int .u64 0, .int .u64 0, .string ⟨#[]⟩]) (by simp [results, Tryz.results110, go_sem, z0, z1, z2, z3]) rfl ?_
    unfold GetPost
    rw [HG2.out]
    exact ⟨rfl, p2, keeps_two p3 (by omega) (by omega)⟩
end Go.Proofs.YtkbiolhcpghmkaaGreat
namespace Go.Proofs.YtkbiolhcpghmkaaGreat
open Go.RowKit
set_option linter.unusedVariables false
/-- a packet's bytes -/
def encP (p : PkV) : List Nat := [p.f.toNat] ++ num8 p.q.toNat ++ num8 p.t.toNat ++ (hi2 p.d.size ++ nl p.d)
theorem WrMid.pb {w0 wr : World} {base B H : Nat} {v0 v : Value} {e : Int} {l : List Nat} {f q t : Int} {d : ByteArray} (h : WrMid w0 base B v0 e v l wr) (hp : PB w0 H f q t d) (h1 : H ≠ B) (h2 : ∀ k, v0.ownBlock = some k → k ≠ H) : PB wr H f q t d :=
  hp.later h.keeps (fun hh => by
    rcases hh with hh | hh
    · exact h1 hh
    · exact h2 H hh.symm rfl)
set_option maxRecDepth 100000 in
set_option maxHeartbeats 2000000 in
theorem pk_put_bad_e (base B : Nat) (e : Int) (v : Value) (l : List Nat) (f q t : Int) (d : ByteArray) (w : World) (h : Wr w base B e v l) (hok : ¬ PkOk ⟨f, q, t, d⟩) :
    Calls Tryz.prog 73 #[.pointer (some ⟨B, 0, none⟩), .agg #[.int .i64 f, .int .u64 q, .int .u64 t, .string d]] w (WrAny w base B v (keepE e 1) l) := by
  have H1 := Lib.hid (h.belowW (Kq.below_alloc w (Obj.cells #[Value.int IntKind.i64 f, Value.int IntKind.u64 q, Value.int IntKind.u64 t, Value.string d] 44)))
  clear h
  have HOK := Lib.hid hok
  clear hok
  go_enter Tryz.func73, Tryz.ntmps73
  go_wp2_with fail
  refine (pk_check_bad f q t d _ HOK.out).mono ?_
  rintro x w2 ⟨rfl, b2⟩
  have H2 := Lib.hid (H1.out.belowW b2)
  have HB := Lib.hid ((Kq.below_alloc w _).trans (b2.mono (Kq.below_alloc w _).size))
  clear b2 H1
  go_wp2_with fail
  refine (wr_byte_bad base B e v l (-1) _ H2.out (Or.inl (by decide))).mono ?_
  intro x w3 hp
  have HP := Lib.hid (hp.from HB.out)
  obtain ⟨rfl, -⟩ := hp
  clear H2 HB
  go_wp2
  first | go_end0 | refine bodyPost_ret (results_none rfl _ _ _) rfl ?_
  exact HP.out
theorem pk_put_bad (base B : Nat) (v : Value) (l : List Nat) (f q t : Int) (d : ByteArray) (w : World) (h : Wr w base B 0 v l) (hok : ¬ PkOk ⟨f, q, t, d⟩) :
    Calls Tryz.prog 73 #[.pointer (some ⟨B, 0, none⟩), .agg #[.int .i64 f, .int .u64 q, .int .u64 t, .string d]] w (WrAny w base B v 1 l) := pk_put_bad_e base B 0 v l f q t d w h hok
set_option maxRecDepth 100000 in
set_option maxHeartbeats 4000000 in
theorem pk_put_ok_e (base B : Nat) (e : Int) (v : Value) (l : List Nat) (f q t : Int) (d : ByteArray) (w : World) (h : Wr w base B e v l) (hok : PkOk ⟨f, q, t, d⟩) (hq : 0 ≤ q ∧ q < 18446744073709551616) (ht : 0 ≤ t ∧ t < 18446744073709551616) (hl : l.length ≤ 1000000) :
    Calls Tryz.prog 73 #[.pointer (some ⟨B, 0, none⟩), .agg #[.int .i64 f, .int .u64 q, .int .u64 t, .string d]] w (WrAny w base B v e (l ++ encP ⟨f, q, t, d⟩)) := by
  have hB : w.heap.size ≠ B := Ne.symm (Nat.ne_of_lt (Kq.blk_lt h.blk))
  have hown : ∀ k, v.ownBlock = some k → k ≠ w.heap.size := fun k hk => Nat.ne_of_lt (h.own.lt k hk).2
  have H1 := Lib.hid (h.belowW (Kq.below_alloc w (Obj.cells #[Value.int IntKind.i64 f, Value.int IntKind.u64 q, Value.int IntKind.u64 t, Value.string d] 44)))
  have P1 : Hid (PB (w.alloc (Obj.cells #[Value.int IntKind.i64 f, Value.int IntKind.u64 q, Value.int IntKind.u64 t, Value.string d] 44)) w.heap.size f q t d) := Lib.hid ⟨Kq.blk_new _ _ _ _⟩
  clear h
  have HOK := Lib.hid hok
  have HN := Lib.hid (And.intro hB hown)
  have HR := Lib.hid (And.intro hq (And.intro ht hl))
  obtain ⟨fn, rfl⟩ := Int.eq_ofNat_of_zero_le (show 0 ≤ f from hok.1)
  obtain ⟨qn, rfl⟩ := Int.eq_ofNat_of_zero_le hq.1
  obtain ⟨tn, rfl⟩ := Int.eq_ofNat_of_zero_le ht.1
  clear hok hB hown hq ht hl
  have hf : fn ≤ 255 := by have := HOK.out.2.1; simp only at this; omega
  have hd : d.size ≤ 64 := HOK.out.2.2.2.2
  go_enter Tryz.func73, Tryz.ntmps73
  go_wp2_with fail
  refine (pk_check_ok _ _ _ d _ HOK.out).mono ?_
  rintro x w2 ⟨rfl, b2⟩
  have H2 := Lib.hid (H1.out.belowW b2)
  have P2 := Lib.hid (PB.mk (Kq.below_blk b2 P1.out.blk (Kq.blk_lt P1.out.blk)))
  have HB := Lib.hid ((Kq.below_alloc w _).trans (b2.mono (Kq.below_alloc w _).size))
  clear b2 H1 P1
  have c0 := P2.out.c0
  go_wp2_with fail
  refine (wr_byte_ok base B e v l fn _ H2.out hf (by have := HR.out.2.2; omega)).mono ?_
  rintro x w3 hp
  obtain ⟨v3, M3⟩ := (WrMid.start H2.out).step hp.any
  obtain ⟨rfl, -⟩ := hp
  have H3 := Lib.hid M3
  have P3 := Lib.hid (M3.pb P2.out HN.out.1 HN.out.2)
  clear M3 c0 H2
  have c1 := P3.out.c1
  go_wp2_with fail
  refine (wr_number base B e v3 _ qn _ H3.out.it (by have := HR.out.1.2; unfold M64; omega) (by have := HR.out.2.2; simp; omega)).mono ?_
  rintro x w4 hp
  obtain ⟨v4, M4⟩ := H3.out.step hp
  obtain ⟨rfl, -⟩ := hp
  have H4 := Lib.hid M4
  have P4 := Lib.hid (M4.pb P2.out HN.out.1 HN.out.2)
  clear M4 c1 H3 P3
  have c2 := P4.out.c2
  go_wp2_with fail
  refine (wr_number base B e v4 _ tn _ H4.out.it (by have := HR.out.2.1.2; unfold M64; omega) (by have := HR.out.2.2; simp [num8]; omega)).mono ?_
  rintro x w5 hp
  obtain ⟨v5, M5⟩ := H4.out.step hp
  obtain ⟨rfl, -⟩ := hp
  have H5 := Lib.hid M5
  have P5 := Lib.hid (M5.pb P2.out HN.out.1 HN.out.2)
  clear M5 c2 H4 P4
  have c3 := P5.out.c3
  go_wp2_with fail
  refine (wr_text_ok base B e v5 _ d _ H5.out.it (by omega) (by have := HR.out.2.2; simp [num8]; omega)).mono ?_
  rintro x w6 hp
  obtain ⟨v6, M6⟩ := H5.out.step hp
  obtain ⟨rfl, -⟩ := hp
  have H6 := Lib.hid (M6.post.from HB.out)
  clear M6 c3 H5 P5
  go_wp2
  first | go_end0 | refine bodyPost_ret (results_none rfl _ _ _) rfl ?_
  have := H6.out
  simp only [List.append_assoc] at this
  simp only [encP, Int.toNat_natCast, List.append_assoc]
  exact this
theorem pk_put_ok (base B : Nat) (v : Value) (l : List Nat) (f q t : Int) (d : ByteArray) (w : World) (h : Wr w base B 0 v l) (hok : PkOk ⟨f, q, t, d⟩) (hq : 0 ≤ q ∧ q < 18446744073709551616) (ht : 0 ≤ t ∧ t < 18446744073709551616) (hl : l.length ≤ 1000000) :
    Calls Tryz.prog 73 #[.pointer (some ⟨B, 0, none⟩), .agg #[.int .i64 f, .int .u64 q, .int .u64 t, .string d]] w (WrAny w base B v 0 (l ++ encP ⟨f, q, t, d⟩)) := pk_put_ok_e base B 0 v l f q t d w h hok hq ht hl
end Go.Proofs.YtkbiolhcpghmkaaGreat
namespace Go.Proofs.YtkbiolhcpghmkaaGreat
open Go.RowKit
set_option linter.unusedVariables false
theorem raw_step {L : List Nat} {p n : Nat} {r : ByteArray} (h : Between L L.length p r) (hn : p + n ≤ L.length) :
    ∃ t r', WireM.raw 0 r (n : Nat) = (t, 0, r') ∧ nl t = (L.drop p).take n ∧ Between L L.length (p + n) r' := by
  have hl : ((L.drop p).take n).length = n := by rw [List.length_take, List.length_drop]; omega
  have := read_ok h (Nat.le_refl _) ((L.drop p).take n) (List.take_prefix _ _) (by rw [hl]; exact hn)
  rw [hl] at this
  obtain ⟨h1, h2, h3⟩ := this
  exact ⟨_, _, Prod.ext rfl (Prod.ext h2 rfl), h1, h3⟩
theorem raw_fall {L : List Nat} {p n : Nat} {r : ByteArray} (h : Between L L.length p r) (hn : L.length < p + n) (hp : p ≤ L.length) : WireM.raw 0 r (n : Nat) = (⟨#[]⟩, 6, r) :=
  read_no h (Nat.le_refl _) n hn hp
theorem raw_six (r : ByteArray) (n : Int) : WireM.raw 6 r n = (⟨#[]⟩, 6, r) := WireM.raw_stuck 6 r n (by decide)
theorem between_self (s : ByteArray) : Between (nl s) (nl s).length 0 s := by
  unfold Between
  rw [List.take_length, List.drop_zero]
/-- how far a text goes -/
theorem get_six (s : ByteArray) (h : (nl s).length < 19 ∨ (nl s).length < 19 + WireM.val (((nl s).drop 17).take 2)) : (gX 0 s).2.1 = 6 := by
  have h0 := between_self s
  generalize nl s = L at *
  by_cases k1 : L.length < 1
  · have e1 := raw_fall (n := 1) h0 (by omega) (by omega)
    unfold gX gD gC gB gA
    simp only [e1, raw_six]
  obtain ⟨t1, r1, e1, _, h1⟩ := raw_step (n := 1) h0 (by omega)
  rw [Nat.zero_add] at h1
  by_cases k2 : L.length < 9
  · have e2 := raw_fall (n := 8) h1 (by omega) (by omega)
    unfold gX gD gC gB gA
    simp only [e1, e2, raw_six]
  obtain ⟨t2, r2, e2, _, h2⟩ := raw_step (n := 8) h1 (by omega)
  by_cases k3 : L.length < 17
  · have e3 := raw_fall (n := 8) h2 (by omega) (by omega)
    unfold gX gD gC gB gA
    simp only [e1, e2, e3, raw_six]
  obtain ⟨t3, r3, e3, _, h3⟩ := raw_step (n := 8) h2 (by omega)
  by_cases k4 : L.length < 19
  · have e4 := raw_fall (n := 2) h3 (by omega) (by omega)
    unfold gX gD gC gB gA
    simp only [e1, e2, e3, e4, raw_six]
  obtain ⟨t4, r4, e4, v4, h4⟩ := raw_step (n := 2) h3 (by omega)
  have h5 : L.length < 19 + WireM.val (nl t4) := by rw [v4]; exact h.resolve_left k4
  have e5 := raw_fall (n := WireM.val (nl t4)) h4 (by omega) (by omega)
  unfold gX gD gC gB gA
  simp only [e1, e2, e3, e4, e5]
theorem get_all (s : ByteArray) (h : 19 + WireM.val (((nl s).drop 17).take 2) ≤ (nl s).length) :
    (gX 0 s).2.1 = 0 ∧ gP 0 s = ⟨(WireM.val ((nl s).take 1) : Nat), (WireM.val (((nl s).drop 1).take 8) : Nat), (WireM.val (((nl s).drop 9).take 8) : Nat), (gX 0 s).1⟩ ∧
      nl (gX 0 s).1 = ((nl s).drop 19).take (WireM.val (((nl s).drop 17).take 2)) ∧ Between (nl s) (nl s).length (19 + WireM.val (((nl s).drop 17).take 2)) (gX 0 s).2.2 := by
  have h0 := between_self s
  generalize nl s = L at *
  obtain ⟨t1, r1, e1, v1, h1⟩ := raw_step (n := 1) h0 (by omega)
  rw [Nat.zero_add] at h1
  rw [List.drop_zero] at v1
  obtain ⟨t2, r2, e2, v2, h2⟩ := raw_step (n := 8) h1 (by omega)
  obtain ⟨t3, r3, e3, v3, h3⟩ := raw_step (n := 8) h2 (by omega)
  obtain ⟨t4, r4, e4, v4, h4⟩ := raw_step (n := 2) h3 (by omega)
  have v4' : nl t4 = (L.drop 17).take 2 := v4
  obtain ⟨t5, r5, e5, v5, h5⟩ := raw_step (n := WireM.val (nl t4)) h4 (by rw [v4']; omega)
  have hA : gA 0 s = (t1, 0, r1) := e1
  have hB : gB 0 s = (t2, 0, r2) := by unfold gB; rw [hA]; exact e2
  have hC : gC 0 s = (t3, 0, r3) := by unfold gC; rw [hB]; exact e3
  have hD : gD 0 s = (t4, 0, r4) := by unfold gD; rw [hC]; exact e4
  have hX : gX 0 s = (t5, 0, r5) := by unfold gX; rw [hD]; exact e5
  unfold gP
  rw [hX, hA, hB, hC]
  refine ⟨rfl, ?_, ?_, ?_⟩
  · show PkV.mk (WireM.val (nl t1) : Nat) (WireM.val (nl t2) : Nat) (WireM.val (nl t3) : Nat) t5 = _
    rw [v1, v2, v3]
  · show nl t5 = _
    rw [v5, v4']
  · show Between L L.length _ r5
    rw [v4'] at h5
    exact h5
theorem nl_head (s : ByteArray) (h : 0 < s.size) : WireM.val ((nl s).take 1) = s[0].toNat := by
  have := take_succ_nl s 0 h
  rw [List.take_zero] at this
  rw [this]
  simp [WireM.val]
end Go.Proofs.YtkbiolhcpghmkaaGreat
namespace Go.Proofs.YtkbiolhcpghmkaaGreat
open Go.RowKit
set_option linter.unusedVariables false
theorem encP_len (p : PkV) : (encP p).length = 19 + p.d.size := by
  simp [encP, num8, hi2, nl_length]; omega
theorem encP_take (p : PkV) (m : List Nat) : (encP p ++ m).take 1 = [p.f.toNat] ∧ ((encP p ++ m).drop 1).take 8 = num8 p.q.toNat ∧ ((encP p ++ m).drop 9).take 8 = num8 p.t.toNat ∧ ((encP p ++ m).drop 17).take 2 = hi2 p.d.size ∧ (encP p ++ m).drop 19 = nl p.d ++ m := by
  simp [encP, num8, hi2]
theorem get_cut (p : PkV) (s : ByteArray) (n : Nat) (hn : n < (encP p).length) (hs : nl s = (encP p).take n) : getOf 0 s = (PkV.zero, 6, (gX 0 s).2.2) := by
  have hl : (nl s).length = n := by rw [hs, List.length_take]; omega
  have h6 : (gX 0 s).2.1 = 6 := by
    refine get_six s ?_
    by_cases h : n < 19
    · exact Or.inl (by omega)
    · refine Or.inr ?_
      have h17 := (encP_take p []).2.2.2.1
      rw [List.append_nil] at h17
      have : ((nl s).drop 17).take 2 = hi2 p.d.size := by
        rw [hs, List.drop_take, List.take_take, Nat.min_eq_left (by omega), h17]
      rw [this, val_hi2]
      rw [encP_len] at hn
      omega
  unfold getOf
  rw [h6, if_neg (by decide)]
theorem get_whole (p : PkV) (hok : PkOk p) (hq : 0 ≤ p.q ∧ p.q < 18446744073709551616) (ht : 0 ≤ p.t ∧ p.t < 18446744073709551616) (s more : ByteArray) (hs : nl s = encP p ++ nl more) :
    getOf 0 s = (p, 0, (gX 0 s).2.2) ∧ (gX 0 s).2.2.size = more.size := by
  obtain ⟨h1, h2, h3, h4, h5⟩ := encP_take p (nl more)
  rw [← hs] at h1 h2 h3 h4 h5
  have hl : (nl s).length = 19 + p.d.size + more.size := by rw [hs, List.length_append, encP_len, nl_length]
  have hv : WireM.val (((nl s).drop 17).take 2) = p.d.size := by rw [h4, val_hi2]
  obtain ⟨g1, g2, g3, g4⟩ := get_all s (by rw [hv]; omega)
  rw [hv] at g3 g4
  rw [h5] at g3
  have hd : (gX 0 s).1 = p.d := by
    apply nl_inj
    rw [g3, ← nl_length p.d, List.take_left]
  have hf0 := hok.1
  have hP : gP 0 s = p := by
    rw [g2, h1, h2, h3, hd, val_one, val_num8 _ (by unfold M64; omega), val_num8 _ (by unfold M64; omega)]
    obtain ⟨f, q, t, d⟩ := p
    simp only at hf0 hq ht ⊢
    rw [Int.toNat_of_nonneg hf0, Int.toNat_of_nonneg hq.1, Int.toNat_of_nonneg ht.1]
  refine ⟨?_, ?_⟩
  · unfold getOf
    rw [g1, if_pos rfl, hP, if_pos hok]
  · have := between_size g4 (Nat.le_refl _)
    rw [this, hl]; omega
end Go.Proofs.YtkbiolhcpghmkaaGreat
