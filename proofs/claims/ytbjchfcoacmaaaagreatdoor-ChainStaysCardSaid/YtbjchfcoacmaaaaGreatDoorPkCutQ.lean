/- Merged: PkKey, PkGet, PkPut, PkCut. Contracts of packet's keys. No condition. Contract of packet.Get. Condition: lengths are ints. Contracts of packet.Put, packet.Bytes. Condition: a packet's data is not too long. Plain mathematics: a packet's bytes are told by themselves. No condition. -/
import Derived.WalkSpells
import Derived.Outline
import Derived.Test.YtbjchfcoacmaaaaGreatDoorBetwQ
import Derived.Test.YtbjchfcoacmaaaaGreatDoorNtValQ
namespace Go.Proofs.YtbjchfcoacmaaaaGreatDoor
open Go.RowKit
set_option linter.unusedVariables false
/-- a key: a letter, a number -/
def keyT (c n : Nat) : ByteArray := txt (c :: num8 n)
theorem keyT_size (c n : Nat) : (keyT c n).size = 9 := by unfold keyT; rw [txt_size]; rfl
set_option maxRecDepth 100000 in
set_option maxHeartbeats 2000000 in
theorem pk_key (b c n : Nat) (w : World) (hb : b < w.heap.size) (hc : c < 256) (hn : n < M64) (hcell : w.cell? ⟨b, 0, none⟩ = some (.int .u64 (n : Int))) :
    Calls Tryz.prog 71 #[.string (txt [c]), .slice (some ⟨b, 0, none⟩) 1 1] w fun x w' => x = .returned (.string (keyT c n)) ∧ Below w.heap.size w w' := by
  have HC := Lib.hid hcell
  have HN := Lib.hid hn
  have hnl : nl (txt [c]) = [c] := nl_txt _ (by simpa using hc)
  have HL := Lib.hid hnl
  have HCC := Lib.hid hc
  have HBB := Lib.hid hb
  clear hcell hn hc hnl
  have hsz : (txt [c]).size = 1 := by rw [txt_size]; rfl
  go_enter Tryz.func71, Tryz.ntmps71
  go_wp2_with fail
  refine (wr_raw _ _ _ _ _ (txt [c]) _ (wr_new w) (by rw [hsz]; decide)).mono ?_
  rintro x w2 hp
  obtain ⟨v2, M2⟩ := (WrMid.start (wr_new w)).step hp.any
  obtain ⟨rfl, -⟩ := hp
  rw [HL.out] at M2
  have H2 := Lib.hid M2
  clear M2
  go_wp2
  go_loopw [14] (fun i wr => (i = .int .i64 0 ∧ ∃ v, WrMid (w.alloc (.cells #[.int .i64 0, .slice none 0 0] 159 (0, 0))) w.heap.size w.heap.size (.slice none 0 0) 0 v [c] wr) ∨ (i = .int .i64 1 ∧ ∃ v, WrMid (w.alloc (.cells #[.int .i64 0, .slice none 0 0] 159 (0, 0))) w.heap.size w.heap.size (.slice none 0 0) 0 v (c :: num8 n) wr)) (fun i _ => 1 - (intOf i).toNat)
  case atStart => exact Or.inl ⟨rfl, v2, H2.out⟩
  case round =>
    clear H2
    rcases hrel with ⟨rfl, v, hM⟩ | ⟨rfl, v, hM⟩
    · have HM := Lib.hid hM
      have hc := (hM.below.cell (p := ⟨b, 0, none⟩) HBB.out).trans HC.out
      clear hM
      go_wp2_with fail
      refine (wr_number _ _ _ _ _ n _ HM.out.it HN.out (by simp)).mono ?_
      rintro x w4 hp
      obtain ⟨v4, M4⟩ := HM.out.step hp
      obtain ⟨rfl, -⟩ := hp
      have H4 := Lib.hid M4
      clear M4 hc
      go_wp2
      go_round
      case rel => exact Or.inr ⟨rfl, v4, H4.out⟩
      case measure => simp [intOf]
    · have HM := Lib.hid hM
      clear hM
      go_wp2_with fail
      refine (wr_bytes_ok _ _ _ (c :: num8 n) _ HM.out.it (by intro x hx; rcases List.mem_cons.1 hx with rfl | h; exact HCC.out; exact num8_lt n x h)).mono ?_
      rintro x w5 ⟨rfl, rfl⟩
      have HB := Lib.hid HM.out.below
      clear HM
      go_wp2
      go_ret
      exact ⟨rfl, HB.out⟩
/-- packet.Sent, Received, Answered -/
theorem one_num (w : World) (n : Nat) : (w.alloc (.cells #[.int .u64 (n : Int)] 22)).cell? ⟨w.heap.size, 0, none⟩ = some (.int .u64 (n : Int)) := by simp
set_option maxRecDepth 100000 in
theorem pk_sent (n : Nat) (w : World) (hn : n < M64) :
    Calls Tryz.prog 34 #[.int .u64 (n : Int)] w fun x w' => x = .returned (.string (keyT 99 n)) ∧ Below w.heap.size w w' := by
  have HN := Lib.hid hn
  clear hn
  go_enter Tryz.func34, Tryz.ntmps34
  go_wp2_with fail
  refine (pk_key w.heap.size 99 n _ (by simp) (by decide) HN.out (one_num w n)).mono ?_
  rintro x w2 ⟨rfl, b2⟩
  have HB := Lib.hid ((Kq.below_alloc w _).trans (b2.mono (Kq.below_alloc w _).size))
  clear b2
  go_wp2
  go_ret
  exact ⟨rfl, HB.out⟩
set_option maxRecDepth 100000 in
theorem pk_received (n : Nat) (w : World) (hn : n < M64) :
    Calls Tryz.prog 35 #[.int .u64 (n : Int)] w fun x w' => x = .returned (.string (keyT 114 n)) ∧ Below w.heap.size w w' := by
  have HN := Lib.hid hn
  clear hn
  go_enter Tryz.func35, Tryz.ntmps35
  go_wp2_with fail
  refine (pk_key w.heap.size 114 n _ (by simp) (by decide) HN.out (one_num w n)).mono ?_
  rintro x w2 ⟨rfl, b2⟩
  have HB := Lib.hid ((Kq.below_alloc w _).trans (b2.mono (Kq.below_alloc w _).size))
  clear b2
  go_wp2
  go_ret
  exact ⟨rfl, HB.out⟩
set_option maxRecDepth 100000 in
theorem pk_answered (n : Nat) (w : World) (hn : n < M64) :
    Calls Tryz.prog 36 #[.int .u64 (n : Int)] w fun x w' => x = .returned (.string (keyT 97 n)) ∧ Below w.heap.size w w' := by
  have HN := Lib.hid hn
  clear hn
  go_enter Tryz.func36, Tryz.ntmps36
  go_wp2_with fail
  refine (pk_key w.heap.size 97 n _ (by simp) (by decide) HN.out (one_num w n)).mono ?_
  rintro x w2 ⟨rfl, b2⟩
  have HB := Lib.hid ((Kq.below_alloc w _).trans (b2.mono (Kq.below_alloc w _).size))
  clear b2
  go_wp2
  go_ret
  exact ⟨rfl, HB.out⟩
theorem ref_key (c n : Nat) (w : World) (hc : c < 256) (hn : n < M64) :
    Calls Tryz.prog 76 #[.string (txt [c]), .int .u64 (n : Int)] w fun x w' => x = .returned (.string (keyT c n)) ∧ Below w.heap.size w w' := by
  have HN := Lib.hid hn
  have HJ := Lib.hid (txt_cons c (num8 n) hc (num8_lt n))
  have h1 : (txt [c]).size = 1 := by rw [txt_size]; rfl
  have h2 : (txt (num8 n)).size = 8 := by rw [txt_size]; rfl
  clear hn hc
  go_enter Tryz.func76, Tryz.ntmps76
  go_wp2_with fail
  refine (ref_num n 8 _ HN.out (by decide)).mono ?_
  rw [be8]
  rintro x w2 ⟨rfl, b2⟩
  have HB := Lib.hid b2
  clear b2
  generalize txt [c] = s at *
  generalize txt (num8 n) = t at *
  go_wp2
  go_ret
  exact ⟨by rw [HJ.out]; rfl, HB.out⟩
end Go.Proofs.YtbjchfcoacmaaaaGreatDoor
namespace Go.Proofs.YtbjchfcoacmaaaaGreatDoor
open Go.RowKit
set_option linter.unusedVariables false
def PkV.zero : PkV := ⟨0, 0, 0, ⟨#[]⟩⟩
/-- what is read, field by field -/
def gA (e : Int) (s : ByteArray) := WireM.raw e s ((1 : Nat) : Int)
/-- a packet in memory -/
structure PB (w : World) (H : Nat) (f q t : Int) (d : ByteArray) : Prop where
  blk : w.heap[H]? = some (.cells #[.int .i64 f, .int .u64 q, .int .u64 t, .string d] 46 (0, 0))
section
variable {w : World} {H : Nat} {f q t : Int} {d : ByteArray} (h : PB w H f q t d)
include h
theorem PB.c0 : w.cell? ⟨H, 0, none⟩ = some (.int .i64 f) := Kq.blk_cell h.blk 0
theorem PB.c1 : w.cell? ⟨H, 1, none⟩ = some (.int .u64 q) := Kq.blk_cell h.blk 1
theorem PB.c2 : w.cell? ⟨H, 2, none⟩ = some (.int .u64 t) := Kq.blk_cell h.blk 2
theorem PB.c3 : w.cell? ⟨H, 3, none⟩ = some (.string d) := Kq.blk_cell h.blk 3
theorem PB.fz (i : Nat) : w.frozen? ⟨H, i, none⟩ = false := Kq.blk_free h.blk i
theorem PB.s0 (x : Int) : PB (w.setCell ⟨H, 0, none⟩ (.int .i64 x)) H x q t d := ⟨Kq.blk_set h.blk 0 _⟩
theorem PB.s1 (x : Int) : PB (w.setCell ⟨H, 1, none⟩ (.int .u64 x)) H f x t d := ⟨Kq.blk_set h.blk 1 _⟩
theorem PB.s2 (x : Int) : PB (w.setCell ⟨H, 2, none⟩ (.int .u64 x)) H f q x d := ⟨Kq.blk_set h.blk 2 _⟩
theorem PB.s3 (x : ByteArray) : PB (w.setCell ⟨H, 3, none⟩ (.string x)) H f q t x := ⟨Kq.blk_set h.blk 3 _⟩
theorem PB.later {S : Nat → Prop} {w' : World} (hk : Kq.Keeps S w w') (hS : ¬ S H) : PB w' H f q t d := ⟨hk.blk h.blk hS⟩
end
theorem Rd.later {S : Nat → Prop} {w w' : World} {B : Nat} {e : Int} {s : ByteArray} (h : Rd w B e s) (hk : Kq.Keeps S w w') (hS : ¬ S B) : Rd w' B e s := hk.blk h hS
/-- while a packet is got: the reader, the packet, the result's block, what is kept -/
structure Gt (w0 : World) (B H R : Nat) (e : Int) (s : ByteArray) (f q t : Int) (d : ByteArray) (w : World) : Prop where
  rd : Rd w B e s
  pb : PB w H f q t d
  rb : PB w R 0 0 0 ⟨#[]⟩
  ne : B ≠ H
  ne2 : B ≠ R
  ne3 : R ≠ H
  sz : s.size ≤ maxLen
  keeps : Kq.Keeps (fun k => k = B ∨ k = H) w0 w
theorem Gt.read {w0 w w' : World} {B H R : Nat} {e e' : Int} {s s' : ByteArray} {f q t : Int} {d : ByteArray} (h : Gt w0 B H R e s f q t d w) (hr : Rd w' B e' s') (hs : s'.size ≤ maxLen) (hk : Kq.Keeps (· = B) w w') : Gt w0 B H R e' s' f q t d w' :=
  ⟨hr, h.pb.later hk (fun e => h.ne e.symm), h.rb.later hk (fun e => h.ne2 e.symm), h.ne, h.ne2, h.ne3, hs, h.keeps.trans (hk.mono (fun k _ hk => Or.inl hk))⟩
theorem Gt.below {w0 w w' : World} {B H R : Nat} {e : Int} {s : ByteArray} {f q t : Int} {d : ByteArray} (h : Gt w0 B H R e s f q t d w) (hb : Below w.heap.size w w') : Gt w0 B H R e s f q t d w' :=
  have hk : Kq.Keeps (fun _ => False) w w' := Kq.Keeps.of_below hb (fun k h1 h2 => absurd h1 (Nat.not_le.2 h2))
  ⟨h.rd.later hk id, h.pb.later hk id, h.rb.later hk id, h.ne, h.ne2, h.ne3, h.sz, h.keeps.trans (hk.mono (fun k _ hk => hk.elim))⟩
theorem Gt.set {w0 w : World} {B H R : Nat} {e : Int} {s : ByteArray} {f q t f' q' t' : Int} {d d' : ByteArray} (h : Gt w0 B H R e s f q t d w) (i : Nat) (v : Value) (hp : PB (w.setCell ⟨H, i, none⟩ v) H f' q' t' d') : Gt w0 B H R e s f' q' t' d' (w.setCell ⟨H, i, none⟩ v) :=
  have hk : Kq.Keeps (· = H) w (w.setCell ⟨H, i, none⟩ v) := Kq.Keeps.setCell _ _ _ rfl
  ⟨h.rd.later hk h.ne, hp, h.rb.later hk h.ne3, h.ne, h.ne2, h.ne3, h.sz, h.keeps.trans (hk.mono (fun k _ hk => Or.inr hk))⟩
/-- the result's block is filled -/
def filled (w : World) (R : Nat) (a b c : Int) (x : ByteArray) : World := (((w.setCell ⟨R, 0, none⟩ (.int .i64 a)).setCell ⟨R, 1, none⟩ (.int .u64 b)).setCell ⟨R, 2, none⟩ (.int .u64 c)).setCell ⟨R, 3, none⟩ (.string x)
theorem filled_keeps (w : World) (R : Nat) (a b c : Int) (x : ByteArray) : Kq.Keeps (· = R) w (filled w R a b c x) := by
  unfold filled
  have k1 := Kq.Keeps.setCell (S := (· = R)) w ⟨R, 0, none⟩ (.int .i64 a) rfl
  have k2 := Kq.Keeps.setCell (S := (· = R)) (w.setCell ⟨R, 0, none⟩ (.int .i64 a)) ⟨R, 1, none⟩ (.int .u64 b) rfl
  have k3 := Kq.Keeps.setCell (S := (· = R)) ((w.setCell ⟨R, 0, none⟩ (.int .i64 a)).setCell ⟨R, 1, none⟩ (.int .u64 b)) ⟨R, 2, none⟩ (.int .u64 c) rfl
  have k4 := Kq.Keeps.setCell (S := (· = R)) (((w.setCell ⟨R, 0, none⟩ (.int .i64 a)).setCell ⟨R, 1, none⟩ (.int .u64 b)).setCell ⟨R, 2, none⟩ (.int .u64 c)) ⟨R, 3, none⟩ (.string x) rfl
  exact ((k1.trans k2).trans k3).trans k4
theorem Gt.res {w0 w : World} {B H R : Nat} {e : Int} {s : ByteArray} {f q t : Int} {d : ByteArray} (h : Gt w0 B H R e s f q t d w) (a b c : Int) (x : ByteArray) :
    PB (filled w R a b c x) R a b c x ∧ Rd (filled w R a b c x) B e s ∧ Kq.Keeps (fun k => k = B ∨ k = H ∨ k = R) w0 (filled w R a b c x) :=
  ⟨(((h.rb.s0 a).s1 b).s2 c).s3 x, h.rd.later (filled_keeps w R a b c x) h.ne2, (h.keeps.mono (fun k _ hk => hk.imp id Or.inl)).trans ((filled_keeps w R a b c x).mono (fun k _ hk => Or.inr (Or.inr hk)))⟩
end Go.Proofs.YtbjchfcoacmaaaaGreatDoor
namespace Go.Proofs.YtbjchfcoacmaaaaGreatDoor
open Go.RowKit
set_option linter.unusedVariables false
/-- a packet's bytes -/
def encP (p : PkV) : List Nat := [p.f.toNat] ++ num8 p.q.toNat ++ num8 p.t.toNat ++ (hi2 p.d.size ++ nl p.d)
theorem WrMid.pb {w0 wr : World} {base B H : Nat} {v0 v : Value} {e : Int} {l : List Nat} {f q t : Int} {d : ByteArray} (h : WrMid w0 base B v0 e v l wr) (hp : PB w0 H f q t d) (h1 : H ≠ B) (h2 : ∀ k, v0.ownBlock = some k → k ≠ H) : PB wr H f q t d :=
  hp.later h.keeps (fun hh => by
    rcases hh with hh | hh
    · exact h1 hh
    · exact h2 H hh.symm rfl)
set_option maxRecDepth 100000 in
set_option maxHeartbeats 4000000 in
theorem pk_put_ok_e (base B : Nat) (e : Int) (v : Value) (l : List Nat) (f q t : Int) (d : ByteArray) (w : World) (h : Wr w base B e v l) (hok : PkOk ⟨f, q, t, d⟩) (hq : 0 ≤ q ∧ q < 18446744073709551616) (ht : 0 ≤ t ∧ t < 18446744073709551616) (hl : l.length ≤ 1000000) :
    Calls Tryz.prog 150 #[.pointer (some ⟨B, 0, none⟩), .agg #[.int .i64 f, .int .u64 q, .int .u64 t, .string d]] w (WrAny w base B v e (l ++ encP ⟨f, q, t, d⟩)) := by
  have hB : w.heap.size ≠ B := Ne.symm (Nat.ne_of_lt (Kq.blk_lt h.blk))
  have hown : ∀ k, v.ownBlock = some k → k ≠ w.heap.size := fun k hk => Nat.ne_of_lt (h.own.lt k hk).2
  have H1 := Lib.hid (h.belowW (Kq.below_alloc w (Obj.cells #[Value.int IntKind.i64 f, Value.int IntKind.u64 q, Value.int IntKind.u64 t, Value.string d] 46)))
  have P1 : Hid (PB (w.alloc (Obj.cells #[Value.int IntKind.i64 f, Value.int IntKind.u64 q, Value.int IntKind.u64 t, Value.string d] 46)) w.heap.size f q t d) := Lib.hid ⟨Kq.blk_new _ _ _ _⟩
  clear h
  have HOK := Lib.hid hok
  have HN := Lib.hid (And.intro hB hown)
  have HR := Lib.hid (And.intro hq (And.intro ht hl))
  obtain ⟨fn, rfl⟩ := Int.eq_ofNat_of_zero_le (show 0 ≤ f from hok.1)
  obtain ⟨qn, rfl⟩ := Int.eq_ofNat_of_zero_le hq.1
  obtain ⟨tn, rfl⟩ := Int.eq_ofNat_of_zero_le ht.1
  clear hok hB hown hq ht hl
  have hf : fn ≤ 255 := by have := HOK.out.2.1; simp only at this; omega
  have hd : d.size ≤ 64 := HOK.out.2.2.2.2
  go_enter Tryz.func150, Tryz.ntmps150
  go_wp2_with fail
  refine (pk_check_ok _ _ _ d _ HOK.out).mono ?_
  rintro x w2 ⟨rfl, b2⟩
  have H2 := Lib.hid (H1.out.belowW b2)
  have P2 := Lib.hid (PB.mk (Kq.below_blk b2 P1.out.blk (Kq.blk_lt P1.out.blk)))
  have HB := Lib.hid ((Kq.below_alloc w _).trans (b2.mono (Kq.below_alloc w _).size))
  clear b2 H1 P1
  have c0 := P2.out.c0
  go_wp2_with fail
  refine (wr_byte_ok base B e v l fn _ H2.out hf (by have := HR.out.2.2; omega)).mono ?_
  rintro x w3 hp
  obtain ⟨v3, M3⟩ := (WrMid.start H2.out).step hp.any
  obtain ⟨rfl, -⟩ := hp
  have H3 := Lib.hid M3
  have P3 := Lib.hid (M3.pb P2.out HN.out.1 HN.out.2)
  clear M3 c0 H2
  have c1 := P3.out.c1
  go_wp2_with fail
  refine (wr_number base B e v3 _ qn _ H3.out.it (by have := HR.out.1.2; unfold M64; omega) (by have := HR.out.2.2; simp; omega)).mono ?_
  rintro x w4 hp
  obtain ⟨v4, M4⟩ := H3.out.step hp
  obtain ⟨rfl, -⟩ := hp
  have H4 := Lib.hid M4
  have P4 := Lib.hid (M4.pb P2.out HN.out.1 HN.out.2)
  clear M4 c1 H3 P3
  have c2 := P4.out.c2
  go_wp2_with fail
  refine (wr_number base B e v4 _ tn _ H4.out.it (by have := HR.out.2.1.2; unfold M64; omega) (by have := HR.out.2.2; simp [num8]; omega)).mono ?_
  rintro x w5 hp
  obtain ⟨v5, M5⟩ := H4.out.step hp
  obtain ⟨rfl, -⟩ := hp
  have H5 := Lib.hid M5
  have P5 := Lib.hid (M5.pb P2.out HN.out.1 HN.out.2)
  clear M5 c2 H4 P4
  have c3 := P5.out.c3
  go_wp2_with fail
  refine (wr_text_ok base B e v5 _ d _ H5.out.it (by omega) (by have := HR.out.2.2; simp [num8]; omega)).mono ?_
  rintro x w6 hp
  obtain ⟨v6, M6⟩ := H5.out.step hp
  obtain ⟨rfl, -⟩ := hp
  have H6 := Lib.hid (M6.post.from HB.out)
  clear M6 c3 H5 P5
  go_wp2
  first | go_end0 | refine bodyPost_ret (results_none rfl _ _ _) rfl ?_
  have := H6.out
  simp only [List.append_assoc] at this
  simp only [encP, Int.toNat_natCast, List.append_assoc]
  exact this
theorem pk_put_ok (base B : Nat) (v : Value) (l : List Nat) (f q t : Int) (d : ByteArray) (w : World) (h : Wr w base B 0 v l) (hok : PkOk ⟨f, q, t, d⟩) (hq : 0 ≤ q ∧ q < 18446744073709551616) (ht : 0 ≤ t ∧ t < 18446744073709551616) (hl : l.length ≤ 1000000) :
    Calls Tryz.prog 150 #[.pointer (some ⟨B, 0, none⟩), .agg #[.int .i64 f, .int .u64 q, .int .u64 t, .string d]] w (WrAny w base B v 0 (l ++ encP ⟨f, q, t, d⟩)) := pk_put_ok_e base B 0 v l f q t d w h hok hq ht hl
end Go.Proofs.YtbjchfcoacmaaaaGreatDoor
namespace Go.Proofs.YtbjchfcoacmaaaaGreatDoor
open Go.RowKit
set_option linter.unusedVariables false
theorem encP_len (p : PkV) : (encP p).length = 19 + p.d.size := by
  simp [encP, num8, hi2, nl_length]; omega
end Go.Proofs.YtbjchfcoacmaaaaGreatDoor
