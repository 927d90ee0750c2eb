/- Merged: ShM, ShRootM. SHA-256 as a function on lists of numbers: what sha.Sum and the document's digest are to come to. No condition. The constants of SHA-256 as the reference works them out, as functions on lists of numbers. No condition. -/
import Derived.WalkSpells
import Derived.Outline
namespace Go.Sh
set_option linter.unusedVariables false
def M32 : Nat := 4294967296
/-- x turned right by n -/
def rot (x n : Nat) : Nat := (x >>> n) ||| ((x <<< (32 - n)) % M32)
/-- the word of four bytes -/
def word (a b c d : Nat) : Nat := a * 16777216 + b * 65536 + c * 256 + d
def words : List Nat → List Nat
  | a :: b :: c :: d :: r => word a b c d :: words r
  | _ => []
def sg0 (x : Nat) : Nat := (rot x 7 ^^^ rot x 18) ^^^ (x >>> 3)
def sg1 (x : Nat) : Nat := (rot x 17 ^^^ rot x 19) ^^^ (x >>> 10)
/-- one word more of the schedule, from those that are there -/
def more (l : List Nat) : List Nat :=
  let n := l.length
  l ++ [(sg1 (l.getD (n - 2) 0) + l.getD (n - 7) 0 + sg0 (l.getD (n - 15) 0) + l.getD (n - 16) 0) % M32]
def iter (f : List Nat → List Nat) : Nat → List Nat → List Nat
  | 0, l => l
  | n + 1, l => iter f n (f l)
/-- W0 .. W63 of a block of 64 bytes -/
def sched (b : List Nat) : List Nat := iter more 48 (words b)
structure S8 where
  a : Nat
  b : Nat
  c : Nat
  d : Nat
  e : Nat
  f : Nat
  g : Nat
  h : Nat
deriving DecidableEq
def ep1 (e : Nat) : Nat := (rot e 6 ^^^ rot e 11) ^^^ rot e 25
def ep0 (a : Nat) : Nat := (rot a 2 ^^^ rot a 13) ^^^ rot a 22
def ch (e f g : Nat) : Nat := (e &&& f) ^^^ ((M32 - 1 - e) &&& g)
def maj (a b c : Nat) : Nat := ((a &&& b) ^^^ (a &&& c)) ^^^ (b &&& c)
def step (s : S8) (k w : Nat) : S8 :=
  let t1 := (s.h + ep1 s.e + ch s.e s.f s.g + k + w) % M32
  let t2 := (ep0 s.a + maj s.a s.b s.c) % M32
  ⟨(t1 + t2) % M32, s.a, s.b, s.c, (s.d + t1) % M32, s.e, s.f, s.g⟩
def rounds : S8 → List Nat → List Nat → S8
  | s, k :: ks, w :: ws => rounds (step s k w) ks ws
  | s, _, _ => s
def add8 (s t : S8) : S8 := ⟨(s.a + t.a) % M32, (s.b + t.b) % M32, (s.c + t.c) % M32, (s.d + t.d) % M32, (s.e + t.e) % M32, (s.f + t.f) % M32, (s.g + t.g) % M32, (s.h + t.h) % M32⟩
def K : List Nat := [
  0x428a2f98, 0x71374491, 0xb5c0fbcf, 0xe9b5dba5, 0x3956c25b, 0x59f111f1, 0x923f82a4, 0xab1c5ed5,
  0xd807aa98, 0x12835b01, 0x243185be, 0x550c7dc3, 0x72be5d74, 0x80deb1fe, 0x9bdc06a7, 0xc19bf174,
  0xe49b69c1, 0xefbe4786, 0x0fc19dc6, 0x240ca1cc, 0x2de92c6f, 0x4a7484aa, 0x5cb0a9dc, 0x76f988da,
  0x983e5152, 0xa831c66d, 0xb00327c8, 0xbf597fc7, 0xc6e00bf3, 0xd5a79147, 0x06ca6351, 0x14292967,
  0x27b70a85, 0x2e1b2138, 0x4d2c6dfc, 0x53380d13, 0x650a7354, 0x766a0abb, 0x81c2c92e, 0x92722c85,
  0xa2bfe8a1, 0xa81a664b, 0xc24b8b70, 0xc76c51a3, 0xd192e819, 0xd6990624, 0xf40e3585, 0x106aa070,
  0x19a4c116, 0x1e376c08, 0x2748774c, 0x34b0bcb5, 0x391c0cb3, 0x4ed8aa4a, 0x5b9cca4f, 0x682e6ff3,
  0x748f82ee, 0x78a5636f, 0x84c87814, 0x8cc70208, 0x90befffa, 0xa4506ceb, 0xbef9a3f7, 0xc67178f2]
def H0 : S8 := ⟨0x6a09e667, 0xbb67ae85, 0x3c6ef372, 0xa54ff53a, 0x510e527f, 0x9b05688c, 0x1f83d9ab, 0x5be0cd19⟩
/-- a block mixed in -/
def mix (s : S8) (b : List Nat) : S8 := add8 s (rounds s K (sched b))
/-- whole blocks, one behind the other; what is behind them plays no part -/
def blocks : Nat → S8 → List Nat → S8
  | 0, s, _ => s
  | n + 1, s, l => blocks n (mix s (l.take 64)) (l.drop 64)
def be4 (x : Nat) : List Nat := [x / 16777216 % 256, x / 65536 % 256, x / 256 % 256, x % 256]
def be8 (x : Nat) : List Nat := be4 (x / M32 % M32) ++ be4 (x % M32)
def padding (n : Nat) : List Nat := 128 :: (List.replicate ((64 + 55 - n % 64) % 64) 0 ++ be8 (n * 8 % 18446744073709551616))
def out (s : S8) : List Nat := be4 s.a ++ be4 s.b ++ be4 s.c ++ be4 s.d ++ be4 s.e ++ be4 s.f ++ be4 s.g ++ be4 s.h
/-- a text's digest -/
def digest (l : List Nat) : List Nat :=
  let p := l ++ padding l.length
  out (blocks (p.length / 64) H0 p)
theorem words_length : ∀ (n : Nat) (l : List Nat), l.length = 4 * n → (words l).length = n
  | 0, l, h => by
    have : l = [] := List.eq_nil_of_length_eq_zero (by omega)
    subst this; rfl
  | n + 1, a :: b :: c :: d :: r, h => by
    simp only [List.length_cons] at h
    rw [words, List.length_cons, words_length n r (by omega)]
  | n + 1, [], h => by simp at h
  | n + 1, [_], h => by simp at h; omega
  | n + 1, [_, _], h => by simp at h; omega
  | n + 1, [_, _, _], h => by simp at h; omega
theorem more_length (l : List Nat) : (more l).length = l.length + 1 := by simp [more]
theorem iter_length : ∀ (n : Nat) (l : List Nat), (iter more n l).length = l.length + n
  | 0, l => rfl
  | n + 1, l => by rw [iter, iter_length n, more_length]; omega
theorem sched_length (b : List Nat) (h : b.length = 64) : (sched b).length = 64 := by
  rw [sched, iter_length, words_length 16 b (by omega)]
theorem iter_succ : ∀ (n : Nat) (l : List Nat), iter more (n + 1) l = more (iter more n l)
  | 0, l => rfl
  | n + 1, l => by
    rw [iter, iter_succ n (more l)]
    rfl
/-- two parts of whole blocks -/
theorem blocks_add : ∀ (m n : Nat) (s : S8) (l : List Nat), blocks (m + n) s l = blocks n (blocks m s l) (l.drop (64 * m))
  | 0, n, s, l => by simp [blocks]
  | m + 1, n, s, l => by
    rw [show m + 1 + n = (m + n) + 1 by omega, blocks, blocks_add m n, blocks, List.drop_drop]
    congr 2
    omega
theorem blocks_front : ∀ (m : Nat) (s : S8) (l r : List Nat), 64 * m ≤ l.length → blocks m s (l ++ r) = blocks m s l
  | 0, s, l, r, h => rfl
  | m + 1, s, l, r, h => by
    rw [blocks, blocks, List.take_append_of_le_length (by omega), List.drop_append_of_le_length (by omega), blocks_front m _ _ _ (by rw [List.length_drop]; omega)]
end Go.Sh
namespace Go.Sh
set_option linter.unusedVariables false
def W64 : Nat := 18446744073709551616
/-- a number added to digits of 32 bits, from one of them on -/
def addN : Nat → List Nat → Nat → Nat → List Nat
  | 0, l, _, _ => l
  | f + 1, l, i, x =>
    if 0 < x ∧ i < l.length then
      addN f (l.set i (((x % M32 + l.getD i 0) % W64 + x / M32 * M32) % W64 % M32)) (i + 1) (((x % M32 + l.getD i 0) % W64 + x / M32 * M32) % W64 / M32)
    else l
def addL (l : List Nat) (i x : Nat) : List Nat := addN (l.length + 1 - i) l i x
def spreadL (p : List Nat) : List Nat := (List.range p.length).foldl (fun l i => addL l i (p.getD i 0)) (List.replicate (p.length + 1) 0)
def mulL (p : List Nat) (x : Nat) : List Nat :=
  let q := spreadL p
  (List.range q.length).foldl (fun l i => addL (addL l i (q.getD i 0 * (x % M32) % W64)) (i + 1) (q.getD i 0 * (x / M32) % W64)) (List.replicate (q.length + 3) 0)
def aboveN (a b : List Nat) : Nat → Bool
  | 0 => false
  | n + 1 => if a.getD n 0 = b.getD n 0 then aboveN a b n else decide (b.getD n 0 < a.getD n 0)
def aboveL (a b : List Nat) : Bool := aboveN a b (a.length + b.length + 1)
def least2 (x n : Nat) : Bool := !aboveL (mulL [x] x) ((List.replicate 3 0).set 2 n)
def least3 (x n : Nat) : Bool := !aboveL (mulL (mulL [x] x) x) ((List.replicate 4 0).set 3 n)
def bis (f : Nat → Bool) : Nat → Nat → Nat → Nat
  | 0, lo, _ => lo
  | k + 1, lo, hi => if f ((lo + hi) / 2) then bis f k ((lo + hi) / 2) hi else bis f k lo ((lo + hi) / 2)
def root2 (n : Nat) : Nat := bis (fun x => least2 x n) 36 0 68719476736 % M32
def root3 (n : Nat) : Nat := bis (fun x => least3 x n) 36 0 68719476736 % M32
def primesN : Nat → List Nat
  | 0 => []
  | k + 1 => if (primesN k).all (fun p => (k + 2) % p != 0) then primesN k ++ [k + 2] else primesN k
def primes64 : List Nat := [2, 3, 5, 7, 11, 13, 17, 19, 23, 29, 31, 37, 41, 43, 47, 53, 59, 61, 67, 71, 73, 79, 83, 89, 97, 101, 103, 107, 109, 113, 127, 131, 137, 139, 149, 151, 157, 163, 167, 173, 179, 181, 191, 193, 197, 199, 211, 223, 227, 229, 233, 239, 241, 251, 257, 263, 269, 271, 277, 281, 283, 293, 307, 311]
set_option maxRecDepth 100000 in
theorem primes_all : primesN 310 = primes64 := by kernel_rfl
set_option maxRecDepth 100000 in
theorem h_all : (primes64.take 8).map root2 = [H0.a, H0.b, H0.c, H0.d, H0.e, H0.f, H0.g, H0.h] := by kernel_rfl
set_option maxRecDepth 100000 in
theorem k_all : primes64.map root3 = K := by kernel_rfl
end Go.Sh
