/- Merged: ShM, ShTurn, ShHex, ShHex2. SHA-256 as a function on lists of numbers: what sha.Sum and the document's digest are to come to. No condition. Contract of sha.turn and of carrackref01.right; words of 32 bits put together bit by bit. Condition: words of 32 bits. Towards a contract of sha.Hex: a slice of bytes made with room and no length. Condition: sizes. Contract of sha.Hex. Condition: sizes. -/
import Derived.WalkSpells
import Derived.Outline
import Derived.Deep.QuietTactic
import Derived.BigQuiet
import Derived.Test.YtcknhnbckbocjaaDoorChecked
import Derived.Test.YtcknhnbckbocjaaDoorCommonQ
import Derived.Laws.MakeOwn
namespace Go.Sh
set_option linter.unusedVariables false
def M32 : Nat := 4294967296
/-- x turned right by n -/
def rot (x n : Nat) : Nat := (x >>> n) ||| ((x <<< (32 - n)) % M32)
/-- the word of four bytes -/
def word (a b c d : Nat) : Nat := a * 16777216 + b * 65536 + c * 256 + d
def words : List Nat → List Nat
  | a :: b :: c :: d :: r => word a b c d :: words r
  | _ => []
def sg0 (x : Nat) : Nat := (rot x 7 ^^^ rot x 18) ^^^ (x >>> 3)
def sg1 (x : Nat) : Nat := (rot x 17 ^^^ rot x 19) ^^^ (x >>> 10)
/-- one word more of the schedule, from those that are there -/
def more (l : List Nat) : List Nat :=
  let n := l.length
  l ++ [(sg1 (l.getD (n - 2) 0) + l.getD (n - 7) 0 + sg0 (l.getD (n - 15) 0) + l.getD (n - 16) 0) % M32]
def iter (f : List Nat → List Nat) : Nat → List Nat → List Nat
  | 0, l => l
  | n + 1, l => iter f n (f l)
/-- W0 .. W63 of a block of 64 bytes -/
def sched (b : List Nat) : List Nat := iter more 48 (words b)
structure S8 where
  a : Nat
  b : Nat
  c : Nat
  d : Nat
  e : Nat
  f : Nat
  g : Nat
  h : Nat
deriving DecidableEq
def ep1 (e : Nat) : Nat := (rot e 6 ^^^ rot e 11) ^^^ rot e 25
def ep0 (a : Nat) : Nat := (rot a 2 ^^^ rot a 13) ^^^ rot a 22
def ch (e f g : Nat) : Nat := (e &&& f) ^^^ ((M32 - 1 - e) &&& g)
def maj (a b c : Nat) : Nat := ((a &&& b) ^^^ (a &&& c)) ^^^ (b &&& c)
def step (s : S8) (k w : Nat) : S8 :=
  let t1 := (s.h + ep1 s.e + ch s.e s.f s.g + k + w) % M32
  let t2 := (ep0 s.a + maj s.a s.b s.c) % M32
  ⟨(t1 + t2) % M32, s.a, s.b, s.c, (s.d + t1) % M32, s.e, s.f, s.g⟩
def rounds : S8 → List Nat → List Nat → S8
  | s, k :: ks, w :: ws => rounds (step s k w) ks ws
  | s, _, _ => s
def add8 (s t : S8) : S8 := ⟨(s.a + t.a) % M32, (s.b + t.b) % M32, (s.c + t.c) % M32, (s.d + t.d) % M32, (s.e + t.e) % M32, (s.f + t.f) % M32, (s.g + t.g) % M32, (s.h + t.h) % M32⟩
def K : List Nat := [
  0x428a2f98, 0x71374491, 0xb5c0fbcf, 0xe9b5dba5, 0x3956c25b, 0x59f111f1, 0x923f82a4, 0xab1c5ed5,
  0xd807aa98, 0x12835b01, 0x243185be, 0x550c7dc3, 0x72be5d74, 0x80deb1fe, 0x9bdc06a7, 0xc19bf174,
  0xe49b69c1, 0xefbe4786, 0x0fc19dc6, 0x240ca1cc, 0x2de92c6f, 0x4a7484aa, 0x5cb0a9dc, 0x76f988da,
  0x983e5152, 0xa831c66d, 0xb00327c8, 0xbf597fc7, 0xc6e00bf3, 0xd5a79147, 0x06ca6351, 0x14292967,
  0x27b70a85, 0x2e1b2138, 0x4d2c6dfc, 0x53380d13, 0x650a7354, 0x766a0abb, 0x81c2c92e, 0x92722c85,
  0xa2bfe8a1, 0xa81a664b, 0xc24b8b70, 0xc76c51a3, 0xd192e819, 0xd6990624, 0xf40e3585, 0x106aa070,
  0x19a4c116, 0x1e376c08, 0x2748774c, 0x34b0bcb5, 0x391c0cb3, 0x4ed8aa4a, 0x5b9cca4f, 0x682e6ff3,
  0x748f82ee, 0x78a5636f, 0x84c87814, 0x8cc70208, 0x90befffa, 0xa4506ceb, 0xbef9a3f7, 0xc67178f2]
def H0 : S8 := ⟨0x6a09e667, 0xbb67ae85, 0x3c6ef372, 0xa54ff53a, 0x510e527f, 0x9b05688c, 0x1f83d9ab, 0x5be0cd19⟩
/-- a block mixed in -/
def mix (s : S8) (b : List Nat) : S8 := add8 s (rounds s K (sched b))
/-- whole blocks, one behind the other; what is behind them plays no part -/
def blocks : Nat → S8 → List Nat → S8
  | 0, s, _ => s
  | n + 1, s, l => blocks n (mix s (l.take 64)) (l.drop 64)
def be4 (x : Nat) : List Nat := [x / 16777216 % 256, x / 65536 % 256, x / 256 % 256, x % 256]
def be8 (x : Nat) : List Nat := be4 (x / M32 % M32) ++ be4 (x % M32)
def padding (n : Nat) : List Nat := 128 :: (List.replicate ((64 + 55 - n % 64) % 64) 0 ++ be8 (n * 8 % 18446744073709551616))
def out (s : S8) : List Nat := be4 s.a ++ be4 s.b ++ be4 s.c ++ be4 s.d ++ be4 s.e ++ be4 s.f ++ be4 s.g ++ be4 s.h
/-- a text's digest -/
def digest (l : List Nat) : List Nat :=
  let p := l ++ padding l.length
  out (blocks (p.length / 64) H0 p)
set_option maxRecDepth 100000 in
theorem digest_empty : digest [] = [0xe3, 0xb0, 0xc4, 0x42, 0x98, 0xfc, 0x1c, 0x14, 0x9a, 0xfb, 0xf4, 0xc8, 0x99, 0x6f, 0xb9, 0x24, 0x27, 0xae, 0x41, 0xe4, 0x64, 0x9b, 0x93, 0x4c, 0xa4, 0x95, 0x99, 0x1b, 0x78, 0x52, 0xb8, 0x55] := by kernel_rfl
set_option maxRecDepth 100000 in
theorem digest_abc : digest [97, 98, 99] = [0xba, 0x78, 0x16, 0xbf, 0x8f, 0x01, 0xcf, 0xea, 0x41, 0x41, 0x40, 0xde, 0x5d, 0xae, 0x22, 0x23, 0xb0, 0x03, 0x61, 0xa3, 0x96, 0x17, 0x7a, 0x9c, 0xb4, 0x10, 0xff, 0x61, 0xf2, 0x00, 0x15, 0xad] := by kernel_rfl
theorem words_length : ∀ (n : Nat) (l : List Nat), l.length = 4 * n → (words l).length = n
  | 0, l, h => by
    have : l = [] := List.eq_nil_of_length_eq_zero (by omega)
    subst this; rfl
  | n + 1, a :: b :: c :: d :: r, h => by
    simp only [List.length_cons] at h
    rw [words, List.length_cons, words_length n r (by omega)]
  | n + 1, [], h => by simp at h
  | n + 1, [_], h => by simp at h; omega
  | n + 1, [_, _], h => by simp at h; omega
  | n + 1, [_, _, _], h => by simp at h; omega
theorem more_length (l : List Nat) : (more l).length = l.length + 1 := by simp [more]
theorem iter_length : ∀ (n : Nat) (l : List Nat), (iter more n l).length = l.length + n
  | 0, l => rfl
  | n + 1, l => by rw [iter, iter_length n, more_length]; omega
theorem sched_length (b : List Nat) (h : b.length = 64) : (sched b).length = 64 := by
  rw [sched, iter_length, words_length 16 b (by omega)]
/-- the schedule grows: what is there stays -/
theorem iter_prefix : ∀ (n : Nat) (l : List Nat) (i : Nat), i < l.length → (iter more n l)[i]? = l[i]?
  | 0, l, i, h => rfl
  | n + 1, l, i, h => by
    rw [iter, iter_prefix n (more l) i (by rw [more_length]; omega)]
    simp only [more]
    rw [List.getElem?_append_left h]
theorem iter_succ : ∀ (n : Nat) (l : List Nat), iter more (n + 1) l = more (iter more n l)
  | 0, l => rfl
  | n + 1, l => by
    rw [iter, iter_succ n (more l)]
    rfl
/-- two parts of whole blocks -/
theorem blocks_add : ∀ (m n : Nat) (s : S8) (l : List Nat), blocks (m + n) s l = blocks n (blocks m s l) (l.drop (64 * m))
  | 0, n, s, l => by simp [blocks]
  | m + 1, n, s, l => by
    rw [show m + 1 + n = (m + n) + 1 by omega, blocks, blocks_add m n, blocks, List.drop_drop]
    congr 2
    omega
theorem blocks_front : ∀ (m : Nat) (s : S8) (l r : List Nat), 64 * m ≤ l.length → blocks m s (l ++ r) = blocks m s l
  | 0, s, l, r, h => rfl
  | m + 1, s, l, r, h => by
    rw [blocks, blocks, List.take_append_of_le_length (by omega), List.drop_append_of_le_length (by omega), blocks_front m _ _ _ (by rw [List.length_drop]; omega)]
end Go.Sh
namespace Go.Proofs.YtcknhnbckbocjaaDoor
open Go.RowKit
set_option linter.unusedVariables false
theorem or_u32 (a b : Nat) (ha : a < 4294967296) (hb : b < 4294967296) : bits .or .u32 (a : Int) (b : Int) = ((a ||| b : Nat) : Int) := by
  have hx : a ||| b < 2 ^ 32 := Nat.or_lt_two_pow (by omega) (by omega)
  have h1 : (BitVec.ofInt 32 (a : Int)).toNat = a := by
    rw [BitVec.ofInt_natCast, BitVec.toNat_ofNat]; exact Nat.mod_eq_of_lt (by omega)
  have h2 : (BitVec.ofInt 32 (b : Int)).toNat = b := by
    rw [BitVec.ofInt_natCast, BitVec.toNat_ofNat]; exact Nat.mod_eq_of_lt (by omega)
  show IntKind.u32.wrap ((BitVec.ofInt 32 (a : Int) ||| BitVec.ofInt 32 (b : Int)).toNat : Int) = _
  rw [BitVec.toNat_or, h1, h2, IntKind.wrap_u32]
  omega
theorem and_u32 (a b : Nat) (ha : a < 4294967296) (hb : b < 4294967296) : bits .and .u32 (a : Int) (b : Int) = ((a &&& b : Nat) : Int) := by
  have hx : a &&& b < 2 ^ 32 := Nat.and_lt_two_pow _ (by omega)
  have h1 : (BitVec.ofInt 32 (a : Int)).toNat = a := by
    rw [BitVec.ofInt_natCast, BitVec.toNat_ofNat]; exact Nat.mod_eq_of_lt (by omega)
  have h2 : (BitVec.ofInt 32 (b : Int)).toNat = b := by
    rw [BitVec.ofInt_natCast, BitVec.toNat_ofNat]; exact Nat.mod_eq_of_lt (by omega)
  show IntKind.u32.wrap ((BitVec.ofInt 32 (a : Int) &&& BitVec.ofInt 32 (b : Int)).toNat : Int) = _
  rw [BitVec.toNat_and, h1, h2, IntKind.wrap_u32]
  omega
theorem xor_u32 (a b : Nat) (ha : a < 4294967296) (hb : b < 4294967296) : bits .xor .u32 (a : Int) (b : Int) = ((a ^^^ b : Nat) : Int) := by
  have hx : a ^^^ b < 2 ^ 32 := Nat.xor_lt_two_pow (by omega) (by omega)
  have h1 : (BitVec.ofInt 32 (a : Int)).toNat = a := by
    rw [BitVec.ofInt_natCast, BitVec.toNat_ofNat]; exact Nat.mod_eq_of_lt (by omega)
  have h2 : (BitVec.ofInt 32 (b : Int)).toNat = b := by
    rw [BitVec.ofInt_natCast, BitVec.toNat_ofNat]; exact Nat.mod_eq_of_lt (by omega)
  show IntKind.u32.wrap ((BitVec.ofInt 32 (a : Int) ^^^ BitVec.ofInt 32 (b : Int)).toNat : Int) = _
  rw [BitVec.toNat_xor, h1, h2, IntKind.wrap_u32]
  omega
theorem rot_lt (x n : Nat) (hx : x < 4294967296) : Sh.rot x n < 4294967296 := by
  unfold Sh.rot Sh.M32
  have h1 : x >>> n < 2 ^ 32 := by rw [Nat.shiftRight_eq_div_pow]; exact Nat.lt_of_le_of_lt (Nat.div_le_self _ _) (by omega)
  have h2 : (x <<< (32 - n)) % 4294967296 < 2 ^ 32 := by have := Nat.mod_lt (x <<< (32 - n)) (show 0 < 4294967296 by decide); omega
  have := Nat.or_lt_two_pow h1 h2
  omega
theorem rot_bits (x n : Nat) (hx : x < 4294967296) : bits .or .u32 ((x : Int) / 2 ^ n) ((x : Int) * 2 ^ (32 - n) % 4294967296) = (Sh.rot x n : Int) := by
  have e1 : (x : Int) / 2 ^ n = ((x / 2 ^ n : Nat) : Int) := by norm_cast
  have e2 : (x : Int) * 2 ^ (32 - n) % 4294967296 = ((x * 2 ^ (32 - n) % 4294967296 : Nat) : Int) := by
    have e3 : (x : Int) * 2 ^ (32 - n) = ((x * 2 ^ (32 - n) : Nat) : Int) := by norm_cast
    rw [e3]
    generalize x * 2 ^ (32 - n) = y
    omega
  rw [e1, e2, or_u32 _ _ (Nat.lt_of_le_of_lt (Nat.div_le_self _ _) hx) (Nat.mod_lt _ (by decide))]
  unfold Sh.rot Sh.M32
  rw [Nat.shiftRight_eq_div_pow, Nat.shiftLeft_eq]
set_option maxRecDepth 100000 in
theorem sh_turn (x n : Nat) (w : World) (hx : x < 4294967296) (hn : 0 < n) (hn2 : n < 32) :
    Calls Tryd.prog 94 #[.int .u32 (x : Int), .int .i64 (n : Int)] w fun e w' => e = .returned (.int .u32 (Sh.rot x n : Int)) ∧ ∃ m, w' = w.drewN m := by
  have HX := Lib.hid (rot_bits x n hx)
  go_enter Tryd.func94, Tryd.ntmps94
  go_wp2
  go_quiet (fail)
  go_wp2
  go_ret
  exact ⟨by rw [HX.out]; rfl, _, rfl⟩
set_option maxRecDepth 100000 in
theorem sh_right (x n : Nat) (w : World) (hx : x < 4294967296) (hn : 0 < n) (hn2 : n < 32) :
    Calls Tryd.prog 92 #[.int .u32 (x : Int), .int .i64 (n : Int)] w fun e w' => e = .returned (.int .u32 (Sh.rot x n : Int)) ∧ ∃ m, w' = w.drewN m := by
  have HX := Lib.hid (rot_bits x n hx)
  go_enter Tryd.func92, Tryd.ntmps92
  go_wp2
  go_quiet (fail)
  go_wp2
  go_ret
  exact ⟨by rw [HX.out]; rfl, _, rfl⟩
end Go.Proofs.YtcknhnbckbocjaaDoor
namespace Go.Proofs.YtcknhnbckbocjaaDoor
open Go.RowKit
set_option linter.unusedVariables false
theorem info_partsH {t : TypeId} {z : Value} {s b : Nat} (h : (Tryd.prog.info? t).map (fun i => (i.zero, i.size, i.bytes)) = some (some z, s, b)) : ∃ i, Tryd.prog.info? t = some i ∧ i.zero = some z ∧ i.size = s ∧ i.bytes = b := by
  cases hi : Tryd.prog.info? t with
  | none => rw [hi] at h; cases h
  | some i =>
    rw [hi] at h
    simp only [Option.map_some, Option.some.injEq, Prod.mk.injEq] at h
    exact ⟨i, rfl, h.1, h.2.1, h.2.2⟩
theorem infoU8H : (Tryd.prog.info? 5).map (fun i => (i.zero, i.size, i.bytes)) = some (some (.int .u8 0), 1, 1) := by kernel_rfl
theorem mk_cap (w : World) (z : Int) (n : Nat) (hz : z = (n : Int)) (hn : n ≤ 3000000) :
    (Instr.makeSlice 97 (.int .i64 0) (.int .i64 z)).run Tryd.prog w = .ok (.slice (some ⟨w.heap.size, 0, none⟩) 0 n) (w.alloc (.cells (madeCells (Value.int IntKind.u8 0).cells n) 5)) := by
  obtain ⟨i0, hi, hz0, hz1, hz2⟩ := info_partsH infoU8H
  subst hz
  have := run_makeSlice (P := Tryd.prog) w 97 5 i0 (.int .u8 0) Tryd.underlying97 hi hz0 .i64 .i64 0 (n : Int) (Int.le_refl _) (by omega) (by rw [hz1]; simp; omega) (by rw [hz2]; omega) (by omega)
  rw [hz1] at this
  simpa using this
theorem made_row (w : World) (n : Nat) (hn : n ≤ 3000000) : (w.alloc (.cells (madeCells (Value.int IntKind.u8 0).cells n) 5)).ownsRow w.heap.size 5 1 (.slice (some ⟨w.heap.size, 0, none⟩) 0 n) 0 [] := by
  refine ⟨rfl, .inr ⟨w.heap.size, n, _, rfl, Nat.le_refl _, heap_alloc_new w _, Nat.zero_le _, by unfold maxLen; omega, ?_, by simp⟩⟩
  rw [size_madeCells]
  simp
def hexd (q : Nat) : Nat := if q < 10 then 48 + q else 87 + q
theorem dig_all : ∀ q : Fin 16, ((⟨#[48, 49, 50, 51, 52, 53, 54, 55, 56, 57, 97, 98, 99, 100, 101, 102]⟩ : ByteArray)[q.val]'q.isLt).toNat = hexd q.val := by decide
theorem dig (x : Int) (q : Nat) (hx : x = (q : Int)) (hq : q < 16) (h : x.toNat < (⟨#[48, 49, 50, 51, 52, 53, 54, 55, 56, 57, 97, 98, 99, 100, 101, 102]⟩ : ByteArray).size) : ((⟨#[48, 49, 50, 51, 52, 53, 54, 55, 56, 57, 97, 98, 99, 100, 101, 102]⟩ : ByteArray)[x.toNat]'h).toNat = hexd q := by
  subst hx
  exact dig_all ⟨q, hq⟩
theorem and15 (x : Nat) (hx : x < 256) : bits .and .u8 (x : Int) 15 = ((x % 16 : Nat) : Int) := by
  have h1 : (BitVec.ofInt 8 (x : Int)).toNat = x := by
    rw [BitVec.ofInt_natCast, BitVec.toNat_ofNat]; exact Nat.mod_eq_of_lt (by omega)
  show IntKind.u8.wrap ((BitVec.ofInt 8 (x : Int) &&& BitVec.ofInt 8 15).toNat : Int) = _
  rw [BitVec.toNat_and, h1, show (BitVec.ofInt 8 15).toNat = 15 from by decide, show (15 : Nat) = 2 ^ 4 - 1 from rfl, Nat.and_two_pow_sub_one_eq_mod, IntKind.wrap_u8]
  omega
/-- the digits of bytes -/
def hexl : List Nat → List Nat
  | [] => []
  | b :: r => hexd (b / 16) :: hexd (b % 16) :: hexl r
theorem hexl_append (l m : List Nat) : hexl (l ++ m) = hexl l ++ hexl m := by
  induction l with
  | nil => rfl
  | cons b r ih => simp [hexl, ih]
theorem hexl_length (l : List Nat) : (hexl l).length = 2 * l.length := by
  induction l with
  | nil => rfl
  | cons b r ih => simp [hexl, ih]; omega
end Go.Proofs.YtcknhnbckbocjaaDoor
namespace Go.Proofs.YtcknhnbckbocjaaDoor
open Go.RowKit
set_option linter.unusedVariables false
def shcells (l : List Nat) : List Value := l.map fun (b : Nat) => Value.int .u8 (b : Int)
theorem nl_at (s : ByteArray) (k : Nat) (h : k < s.size) : (nl s).take (k + 1) = (nl s).take k ++ [s[k].toNat] := by
  have hl : k < (nl s).length := by simpa [nl] using h
  rw [List.take_succ_eq_append_getElem hl]
  congr 2
  simp [nl]
  rfl
theorem hexd_lt (q : Nat) (h : q < 16) : hexd q < 256 := by unfold hexd; split <;> omega
theorem hexl_lt (l : List Nat) (h : ∀ b ∈ l, b < 256) : ∀ x ∈ hexl l, x < 256 := by
  induction l with
  | nil => intro x hx; cases hx
  | cons b r ih =>
    intro x hx
    have hb := h b (by simp)
    simp only [hexl, List.mem_cons] at hx
    rcases hx with rfl | rfl | hx
    · exact hexd_lt _ (by omega)
    · exact hexd_lt _ (by omega)
    · exact ih (fun c hc => h c (by simp [hc])) x hx
/-- a row of one's own as a text -/
theorem conv_own {w : World} {base n : Nat} {v : Value} {l : List Nat} (h : w.ownsRow base 5 1 v n (shcells l)) (hn : n = l.length) (hl : ∀ b ∈ l, b < 256) :
    (convert 97 9 v).run Tryd.prog w = .ok (.string (txt l)) w := by
  subst hn
  rcases h.2 with ⟨rfl, h0⟩ | ⟨g, cap, cur, rfl, _, hb, _, _, _, ht⟩
  · have : l = [] := List.eq_nil_of_length_eq_zero h0
    subst this
    exact Kq.conv_bytes_none w 0 Tryd.underlying97 Tryd.underlying5 Tryd.underlying9
  · have hr : Kq.Row w g l := by
      refine ⟨fun j hj => ?_, fun j hj => Kq.blk_free hb j⟩
      have e : (shcells l)[j]? = some (.int .u8 ((l[j] : Nat) : Int)) := by simp [shcells, List.getElem?_eq_getElem hj]
      rw [Kq.blk_cell hb j, ← Array.getElem?_toList, ← e, ← ht, List.getElem?_take, if_pos (by omega)]
    exact hr.text hl cap Tryd.underlying97 Tryd.underlying5 Tryd.underlying9
end Go.Proofs.YtcknhnbckbocjaaDoor
