/- The constants of SHA-256 as the reference works them out, as functions on lists of numbers. No condition. -/
import Derived.Test.YtcknhnbckbocjaaDoorShHex2Q
namespace Go.Sh
set_option linter.unusedVariables false
def W64 : Nat := 18446744073709551616
/-- a number added to digits of 32 bits, from one of them on -/
def addN : Nat → List Nat → Nat → Nat → List Nat
  | 0, l, _, _ => l
  | f + 1, l, i, x =>
    if 0 < x ∧ i < l.length then
      addN f (l.set i (((x % M32 + l.getD i 0) % W64 + x / M32 * M32) % W64 % M32)) (i + 1) (((x % M32 + l.getD i 0) % W64 + x / M32 * M32) % W64 / M32)
    else l
def addL (l : List Nat) (i x : Nat) : List Nat := addN (l.length + 1 - i) l i x
def spreadL (p : List Nat) : List Nat := (List.range p.length).foldl (fun l i => addL l i (p.getD i 0)) (List.replicate (p.length + 1) 0)
def mulL (p : List Nat) (x : Nat) : List Nat :=
  let q := spreadL p
  (List.range q.length).foldl (fun l i => addL (addL l i (q.getD i 0 * (x % M32) % W64)) (i + 1) (q.getD i 0 * (x / M32) % W64)) (List.replicate (q.length + 3) 0)
def aboveN (a b : List Nat) : Nat → Bool
  | 0 => false
  | n + 1 => if a.getD n 0 = b.getD n 0 then aboveN a b n else decide (b.getD n 0 < a.getD n 0)
def aboveL (a b : List Nat) : Bool := aboveN a b (a.length + b.length + 1)
def least2 (x n : Nat) : Bool := !aboveL (mulL [x] x) ((List.replicate 3 0).set 2 n)
def least3 (x n : Nat) : Bool := !aboveL (mulL (mulL [x] x) x) ((List.replicate 4 0).set 3 n)
def bis (f : Nat → Bool) : Nat → Nat → Nat → Nat
  | 0, lo, _ => lo
  | k + 1, lo, hi => if f ((lo + hi) / 2) then bis f k ((lo + hi) / 2) hi else bis f k lo ((lo + hi) / 2)
def root2 (n : Nat) : Nat := bis (fun x => least2 x n) 36 0 68719476736 % M32
def root3 (n : Nat) : Nat := bis (fun x => least3 x n) 36 0 68719476736 % M32
def primesN : Nat → List Nat
  | 0 => []
  | k + 1 => if (primesN k).all (fun p => (k + 2) % p != 0) then primesN k ++ [k + 2] else primesN k
def primes64 : List Nat := [2, 3, 5, 7, 11, 13, 17, 19, 23, 29, 31, 37, 41, 43, 47, 53, 59, 61, 67, 71, 73, 79, 83, 89, 97, 101, 103, 107, 109, 113, 127, 131, 137, 139, 149, 151, 157, 163, 167, 173, 179, 181, 191, 193, 197, 199, 211, 223, 227, 229, 233, 239, 241, 251, 257, 263, 269, 271, 277, 281, 283, 293, 307, 311]
set_option maxRecDepth 100000 in
theorem primes_all : primesN 310 = primes64 := by kernel_rfl
set_option maxRecDepth 100000 in
theorem h_all : (primes64.take 8).map root2 = [H0.a, H0.b, H0.c, H0.d, H0.e, H0.f, H0.g, H0.h] := by kernel_rfl
set_option maxRecDepth 100000 in
theorem k_all : primes64.map root3 = K := by kernel_rfl
end Go.Sh
