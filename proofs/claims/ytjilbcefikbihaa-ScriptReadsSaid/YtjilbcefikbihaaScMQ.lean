/- Merged: RefVal, ScM. Contract of carrackref03.Value: a number of bytes. Condition: eight bytes at most. An act as a value; its cells; a form as mathematics. -/
import Derived.WalkSpells
import Derived.Test.YtjilbcefikbihaaWireRd2Q
import Derived.Test.YtjilbcefikbihaaWireMQ
import Derived.Test.YtjilbcefikbihaaBeNumQ
namespace Go.Proofs.Ytjilbcefikbihaa
open Go.RowKit
set_option linter.unusedVariables false
theorem val_step (v : Nat) (b : UInt8) (hv : v < 256 ^ 7) : IntKind.u64.wrap ((v : Int) * 256 + ((b.toNat : Nat) : Int)) = ((v * 256 + b.toNat : Nat) : Int) := by
  have hb := b.toNat_lt
  rw [IntWalk.u64_in _ (by omega)]; omega
theorem val_one_byte (b : UInt8) : IntKind.u64.wrap ((b.toNat : Nat) : Int) = ((b.toNat : Nat) : Int) := by
  have hb := b.toNat_lt
  exact IntWalk.u64_in _ (by omega)
theorem val_mul (v : Nat) (hv : v < 256 ^ 7) : IntKind.u64.wrap ((v : Int) * 256) = ((v : Int) * 256) := IntWalk.u64_in _ (by omega)
set_option maxRecDepth 100000 in
set_option maxHeartbeats 800000 in
theorem ref_value (t : ByteArray) (w : World) (hsz : t.size ≤ 8) :
    Calls Try.prog 54 #[.string t] w fun x w' => x = .returned (.int .u64 ((WireM.val (nl t) : Nat) : Int)) ∧ w = w' := by
  go_enter Try.func54, Try.ntmps54
  go_wp2
  go_loop [3, 4] (fun y j => ∃ m : Nat, m ≤ t.size ∧ j = .int .i64 m ∧ y = .int .u64 (WireM.val ((nl t).take m) : Nat)) (fun _ j => t.size - (intOf j).toNat)
  case atStart => exact ⟨0, by omega, rfl, rfl⟩
  case round =>
    obtain ⟨m, hm, rfl, rfl⟩ := hrel
    by_cases hlt : m < t.size
    · have hS := Lib.hid (val_succ t m hlt)
      have hv := val_take_lt t m hlt hsz
      generalize WireM.val ((nl t).take m) = v at *
      have ho := val_step v t[m] hv
      have ho2 := val_mul v hv
      have ho3 := val_one_byte t[m]
      clear hv
      go_wp2
      go_round
      case rel => exact ⟨m + 1, by omega, by go_num, by rw [hS.out, Int.natCast_add, Int.natCast_mul]; rfl⟩
      case measure => simp [intOf]; omega
    · have hm' : m = t.size := Nat.le_antisymm hm (Nat.not_lt.1 hlt)
      subst hm'
      have hT : (nl t).take t.size = nl t := List.take_of_length_le (by rw [nl_length]; exact Nat.le_refl _)
      rw [hT]
      go_wp2
      go_ret
      exact ⟨rfl, rfl⟩
end Go.Proofs.Ytjilbcefikbihaa
namespace Go.Proofs.Ytjilbcefikbihaa
open Go.RowKit
set_option linter.unusedVariables false
/-- an act -/
structure SaV where
  make ::
  k : Int
  c : Int
  t : Int
  d : ByteArray
  n : Int
  mk : Int
  mt : Int
  mh : Int
  pf : Int
  pq : Int
  pt : Int
  pd : ByteArray
  mp : ByteArray
  ws : List (Bool × Int)
def SaV.zero : SaV := ⟨0, 0, 0, ⟨#[]⟩, 0, 0, 0, 0, 0, 0, 0, ⟨#[]⟩, ⟨#[]⟩, []⟩
/-- its cells, with the slice of its writes, and what stands behind -/
def SaV.cells (a : SaV) (sv : Value) (tl : List Value) : List Value :=
  [.int .i64 a.k, .int .i64 a.c, .int .u64 a.t, .string a.d, .int .i64 a.n, .int .i64 a.mk, .int .i64 a.mt, .int .u64 a.mh, .int .i64 a.pf, .int .u64 a.pq, .int .u64 a.pt, .string a.pd, .string a.mp, sv] ++ tl
/-- numbers are numbers, texts no longer than told -/
structure SaV.wf (a : SaV) : Prop where
  t : 0 ≤ a.t ∧ a.t < 18446744073709551616
  mh : 0 ≤ a.mh ∧ a.mh < 18446744073709551616
  pq : 0 ≤ a.pq ∧ a.pq < 18446744073709551616
  pt : 0 ≤ a.pt ∧ a.pt < 18446744073709551616
  d : a.d.size ≤ 70000
  pd : a.pd.size ≤ 70000
  mp : a.mp.size ≤ 70000
  ws : a.ws.length ≤ 600
/-- a form: what may be written, its bytes, what is read, which fields are kept -/
structure FmV where
  ok : SaV → Prop
  enc : SaV → List Nat
  cap : Nat
  get : SaV → Int → ByteArray → SaV × Int × ByteArray
  keep : SaV → SaV → SaV
/-- what Byte reads -/
def byteF (e : Int) (s : ByteArray) : Int × Int × ByteArray := (((WireM.val (nl (WireM.raw e s ((1 : Nat) : Int)).1) : Nat) : Int), (WireM.raw e s ((1 : Nat) : Int)).2)
def numF (e : Int) (s : ByteArray) : Int × Int × ByteArray := (((WireM.val (nl (WireM.raw e s ((8 : Nat) : Int)).1) : Nat) : Int), (WireM.raw e s ((8 : Nat) : Int)).2)
def textF (e : Int) (s : ByteArray) : ByteArray × Int × ByteArray := WireM.raw (WireM.raw e s ((2 : Nat) : Int)).2.1 (WireM.raw e s ((2 : Nat) : Int)).2.2 ((WireM.val (nl (WireM.raw e s ((2 : Nat) : Int)).1) : Nat) : Int)
/-- a small number in a field -/
def smF (g : SaV → Int) (s : SaV → Int → SaV) : FmV where
  ok a := 0 ≤ g a ∧ g a ≤ 255
  enc a := [(g a).toNat]
  cap := 1
  get a e b := (s a (byteF e b).1, (byteF e b).2)
  keep a b := s b (g a)
def nuF (g : SaV → Int) (s : SaV → Int → SaV) : FmV where
  ok a := True
  enc a := num8 (g a).toNat
  cap := 8
  get a e b := (s a (numF e b).1, (numF e b).2)
  keep a b := s b (g a)
def txF (g : SaV → ByteArray) (s : SaV → ByteArray → SaV) : FmV where
  ok a := (g a).size ≤ 65535
  enc a := hi2 (g a).size ++ nl (g a)
  cap := 65537
  get a e b := (s a (textF e b).1, (textF e b).2)
  keep a b := s b (g a)
/-- parts, one behind the other -/
def okL : List FmV → SaV → Prop
  | [], _ => True
  | f :: l, a => f.ok a ∧ okL l a
def encFL : List FmV → SaV → List Nat
  | [], _ => []
  | f :: l, a => f.enc a ++ encFL l a
def capL : List FmV → Nat
  | [] => 0
  | f :: l => f.cap + capL l
def getL : List FmV → SaV → Int → ByteArray → SaV × Int × ByteArray
  | [], a, e, b => (a, e, b)
  | f :: l, a, e, b => getL l (f.get a e b).1 (f.get a e b).2.1 (f.get a e b).2.2
def keepL : List FmV → SaV → SaV → SaV
  | [], _, b => b
  | f :: l, a, b => keepL l a (f.keep a b)
def allF (l : List FmV) : FmV := ⟨okL l, encFL l, capL l, getL l, keepL l⟩
theorem okL_snoc (l : List FmV) (f : FmV) (a : SaV) : okL (l ++ [f]) a ↔ okL l a ∧ f.ok a := by
  induction l with
  | nil => simp [okL]
  | cons g l ih => simp only [List.cons_append, okL, ih, and_assoc]
theorem encFL_snoc (l : List FmV) (f : FmV) (a : SaV) : encFL (l ++ [f]) a = encFL l a ++ f.enc a := by
  induction l with
  | nil => simp [encFL]
  | cons g l ih => simp only [List.cons_append, encFL, ih, List.append_assoc]
theorem capL_snoc (l : List FmV) (f : FmV) : capL (l ++ [f]) = capL l + f.cap := by
  induction l with
  | nil => simp [capL]
  | cons g l ih => simp only [List.cons_append, capL, ih, Nat.add_assoc]
theorem getL_snoc (l : List FmV) (f : FmV) (a : SaV) (e : Int) (b : ByteArray) : getL (l ++ [f]) a e b = f.get (getL l a e b).1 (getL l a e b).2.1 (getL l a e b).2.2 := by
  induction l generalizing a e b with
  | nil => rfl
  | cons g l ih => simp only [List.cons_append, getL, ih]
theorem keepL_snoc (l : List FmV) (f : FmV) (a b : SaV) : keepL (l ++ [f]) a b = f.keep a (keepL l a b) := by
  induction l generalizing b with
  | nil => rfl
  | cons g l ih => simp only [List.cons_append, keepL, ih]
/-- the pairs of a crash -/
def pairF (e : Int) (s : ByteArray) : Int × Int × ByteArray := ((byteF e s).1 * 256 + (byteF (byteF e s).2.1 (byteF e s).2.2).1, (byteF (byteF e s).2.1 (byteF e s).2.2).2)
def okW (l : List (Bool × Int)) : Prop := ∀ x ∈ l, 0 ≤ x.2 ∧ x.2 ≤ 65535
def encW : List (Bool × Int) → List Nat
  | [] => []
  | x :: l => [if x.1 then 1 else 0] ++ hi2 x.2.toNat ++ encW l
def getW : Nat → Int → ByteArray → List (Bool × Int) × Int × ByteArray
  | 0, e, b => ([], e, b)
  | n + 1, e, b => let x := byteF e b; let y := pairF x.2.1 x.2.2; let z := getW n y.2.1 y.2.2; (((decide (x.1 ≠ 0)), y.1) :: z.1, z.2)
def wrF : FmV where
  ok a := a.ws.length ≤ 255 ∧ okW a.ws
  enc a := [a.ws.length] ++ encW a.ws
  cap := 200000
  get a e b := ({ a with ws := a.ws ++ (getW (byteF e b).1.toNat (byteF e b).2.1 (byteF e b).2.2).1 }, (getW (byteF e b).1.toNat (byteF e b).2.1 (byteF e b).2.2).2)
  keep a b := { b with ws := a.ws }
/-- the fields -/
def fC : FmV := smF SaV.c fun a x => { a with c := x }
def fN : FmV := smF SaV.n fun a x => { a with n := x }
def fT : FmV := nuF SaV.t fun a x => { a with t := x }
def fD : FmV := txF SaV.d fun a x => { a with d := x }
def fMs : List FmV := [smF SaV.mk fun a x => { a with mk := x }, smF SaV.mt fun a x => { a with mt := x }, nuF SaV.mh fun a x => { a with mh := x }, smF SaV.pf fun a x => { a with pf := x }, nuF SaV.pq fun a x => { a with pq := x }, nuF SaV.pt fun a x => { a with pt := x }, txF SaV.pd fun a x => { a with pd := x }, txF SaV.mp fun a x => { a with mp := x }]
def formsL : List FmV := [allF [fC, fT, fD], fC, allF [], fN, fN, fN, allF fMs, fN, wrF]
end Go.Proofs.Ytjilbcefikbihaa
