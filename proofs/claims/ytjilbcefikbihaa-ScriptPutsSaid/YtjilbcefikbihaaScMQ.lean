/- Merged: BeNum, ScM. Numbers as bytes, the highest first; contract of carrackref03.Bytes. Condition: eight bytes at most. An act as a value; its cells; a form as mathematics. -/
import Derived.WalkSpells
import Derived.Test.YtjilbcefikbihaaWireMQ
namespace Go.Proofs.Ytjilbcefikbihaa
open Go.RowKit
set_option linter.unusedVariables false
def M64 : Nat := 18446744073709551616
/-- the first k of the eight bytes of a number, the highest first -/
def num8 (n : Nat) : List Nat := [n / 72057594037927936 % 256, n / 281474976710656 % 256, n / 1099511627776 % 256, n / 4294967296 % 256, n / 16777216 % 256, n / 65536 % 256, n / 256 % 256, n % 256]
def hi2 (n : Nat) : List Nat := [n / 256, n % 256]
/-- so many bytes of a number, the highest first -/
def be (n k : Nat) : List Nat := ((List.range k).map fun j => n / 256 ^ j % 256).reverse
theorem be_succ (n k : Nat) : be n (k + 1) = (n / 256 ^ k % 256) :: be n k := by
  unfold be; rw [List.range_succ, List.map_append, List.reverse_append]; rfl
theorem be_len (n k : Nat) : (be n k).length = k := by simp [be]
theorem be_lt (n k : Nat) : ∀ b ∈ be n k, b < 256 := by
  intro b hb
  simp only [be, List.mem_reverse, List.mem_map] at hb
  obtain ⟨j, _, rfl⟩ := hb
  exact Nat.mod_lt _ (by decide)
theorem be8 (n : Nat) : be n 8 = num8 n := by simp [be, num8, List.range, List.range.loop]
theorem be2 (n : Nat) (h : n < 65536) : be n 2 = hi2 n := by
  simp [be, hi2, List.range, List.range.loop]; omega
theorem be1 (n : Nat) (h : n < 256) : be n 1 = [n] := by
  simp [be, List.range, List.range.loop]; omega
theorem txt_cons (b : Nat) (l : List Nat) (hb : b < 256) (hl : ∀ b ∈ l, b < 256) : txt [b] ++ txt l = txt (b :: l) := by
  apply nl_inj
  rw [nl_append, nl_txt _ hl, nl_txt _ (by simpa using hb), nl_txt _ (by intro x hx; exact (List.mem_cons.1 hx).elim (fun h => h ▸ hb) (hl x))]
  rfl
theorem q_int (v : Nat) (h : v < 18446744073709551616) : IntKind.u64.wrap ((v : Int) / 256) = ((v / 256 : Nat) : Int) := by
  rw [IntWalk.u64_in _ (by omega)]; rfl
set_option maxRecDepth 100000 in
set_option maxHeartbeats 2000000 in
theorem ref_num (n c : Nat) (w : World) (hn : n < M64) (hc : c ≤ 8) :
    Calls Try.prog 26 #[.int .u64 (n : Int), .int .i64 (c : Int)] w fun x w' => x = .returned (.string (txt (be n c))) ∧ Below w.heap.size w w' := by
  have HN := Lib.hid hn
  clear hn
  go_enter Try.func26, Try.ntmps26
  go_wp2
  go_loopw [0, 5, 6] (fun m s i wr => ∃ k : Nat, k ≤ c ∧ i = .int .i64 k ∧ m = .int .u64 ((n / 256 ^ k : Nat) : Int) ∧ s = .string (txt (be n k)) ∧ Below w.heap.size w wr) (fun _ _ i _ => c - (intOf i).toNat)
  case atStart => exact ⟨0, by omega, rfl, by rw [Nat.pow_zero, Nat.div_one], rfl, Below.refl _ _⟩
  case round =>
    obtain ⟨k, hk, rfl, rfl, rfl, hb⟩ := hrel
    by_cases hlt : k < c
    · have hS := Lib.hid (be_succ n k)
      have hT := Lib.hid (txt_cons (n / 256 ^ k % 256) (be n k) (Nat.mod_lt _ (by decide)) (be_lt n k))
      have hD : Hid (n / 256 ^ (k + 1) = n / 256 ^ k / 256) := Lib.hid (by rw [Nat.pow_succ, Nat.div_div_eq_div_mul])
      have hsz : (txt (be n k)).size ≤ 8 := by rw [txt_size, be_len]; omega
      have hv : n / 256 ^ k < M64 := Nat.lt_of_le_of_lt (Nat.div_le_self _ _) HN.out
      unfold M64 at hv
      have HV := Lib.hid hv
      have HQ : Hid (IntKind.u64.wrap (((n / 256 ^ k : Nat) : Int) / 256) = ((n / 256 ^ k / 256 : Nat) : Int)) := Lib.hid (q_int _ HV.out)
      clear hv
      have HB := Lib.hid hb
      clear hb
      have HLT := Lib.hid hlt
      generalize n / 256 ^ k = v at *
      generalize txt (be n k) = s at *
      obtain ⟨t, ht, htz, hcv⟩ : ∃ t, Hid (t = txt [v % 256]) ∧ t.size = 1 ∧ (convert 76 9 (.slice (some ⟨wr.heap.size, 0, none⟩) 1 1)).run Try.prog (wr.alloc (Obj.cells #[Value.int IntKind.u8 ((v : Int) % 256)] 5)) = .ok (.string t) (wr.alloc (Obj.cells #[Value.int IntKind.u8 ((v : Int) % 256)] 5)) := by
        refine ⟨_, Lib.hid rfl, by rw [txt_size]; rfl, ?_⟩
        have hcv := Kq.conv_bytes (P := Try.prog) (wr.alloc (Obj.cells #[Value.int IntKind.u8 ((v : Int) % 256)] 5)) (src := 76) (dst := 9) ⟨wr.heap.size, 0, none⟩ (([v % 256]).map UInt8.ofNat) 1 Try.underlying76 Try.underlying5 Try.underlying9
          (fun j u hj => Kq.cell_new _ _ _ (by
            rw [← hj, ← List.getElem?_toArray]
            congr 1
            simp))
        exact hcv
      rw [← ht.out] at hT
      go_wp2
      go_round
      case rel => exact ⟨k + 1, by have := HLT.out; omega, by go_num, by rw [hD.out, HQ.out], by rw [hS.out, ← hT.out], HB.out.trans ((Kq.below_alloc _ _).mono HB.out.size)⟩
      case measure => have := HLT.out; simp [intOf]; omega
    · have hk' : k = c := Nat.le_antisymm hk (Nat.not_lt.1 hlt)
      subst hk'
      have HB := Lib.hid hb
      clear hb
      go_wp2
      go_ret
      exact ⟨rfl, HB.out⟩
theorem num8_lt (n : Nat) : ∀ b ∈ num8 n, b < 256 := by rw [← be8]; exact be_lt n 8
end Go.Proofs.Ytjilbcefikbihaa
namespace Go.Proofs.Ytjilbcefikbihaa
open Go.RowKit
set_option linter.unusedVariables false
/-- an act -/
structure SaV where
  make ::
  k : Int
  c : Int
  t : Int
  d : ByteArray
  n : Int
  mk : Int
  mt : Int
  mh : Int
  pf : Int
  pq : Int
  pt : Int
  pd : ByteArray
  mp : ByteArray
  ws : List (Bool × Int)
def SaV.zero : SaV := ⟨0, 0, 0, ⟨#[]⟩, 0, 0, 0, 0, 0, 0, 0, ⟨#[]⟩, ⟨#[]⟩, []⟩
/-- its cells, with the slice of its writes, and what stands behind -/
def SaV.cells (a : SaV) (sv : Value) (tl : List Value) : List Value :=
  [.int .i64 a.k, .int .i64 a.c, .int .u64 a.t, .string a.d, .int .i64 a.n, .int .i64 a.mk, .int .i64 a.mt, .int .u64 a.mh, .int .i64 a.pf, .int .u64 a.pq, .int .u64 a.pt, .string a.pd, .string a.mp, sv] ++ tl
/-- numbers are numbers, texts no longer than told -/
structure SaV.wf (a : SaV) : Prop where
  t : 0 ≤ a.t ∧ a.t < 18446744073709551616
  mh : 0 ≤ a.mh ∧ a.mh < 18446744073709551616
  pq : 0 ≤ a.pq ∧ a.pq < 18446744073709551616
  pt : 0 ≤ a.pt ∧ a.pt < 18446744073709551616
  d : a.d.size ≤ 70000
  pd : a.pd.size ≤ 70000
  mp : a.mp.size ≤ 70000
  ws : a.ws.length ≤ 600
/-- a form: what may be written, its bytes, what is read, which fields are kept -/
structure FmV where
  ok : SaV → Prop
  enc : SaV → List Nat
  cap : Nat
  get : SaV → Int → ByteArray → SaV × Int × ByteArray
  keep : SaV → SaV → SaV
/-- what Byte reads -/
def byteF (e : Int) (s : ByteArray) : Int × Int × ByteArray := (((WireM.val (nl (WireM.raw e s ((1 : Nat) : Int)).1) : Nat) : Int), (WireM.raw e s ((1 : Nat) : Int)).2)
def numF (e : Int) (s : ByteArray) : Int × Int × ByteArray := (((WireM.val (nl (WireM.raw e s ((8 : Nat) : Int)).1) : Nat) : Int), (WireM.raw e s ((8 : Nat) : Int)).2)
def textF (e : Int) (s : ByteArray) : ByteArray × Int × ByteArray := WireM.raw (WireM.raw e s ((2 : Nat) : Int)).2.1 (WireM.raw e s ((2 : Nat) : Int)).2.2 ((WireM.val (nl (WireM.raw e s ((2 : Nat) : Int)).1) : Nat) : Int)
/-- a small number in a field -/
def smF (g : SaV → Int) (s : SaV → Int → SaV) : FmV where
  ok a := 0 ≤ g a ∧ g a ≤ 255
  enc a := [(g a).toNat]
  cap := 1
  get a e b := (s a (byteF e b).1, (byteF e b).2)
  keep a b := s b (g a)
def nuF (g : SaV → Int) (s : SaV → Int → SaV) : FmV where
  ok a := True
  enc a := num8 (g a).toNat
  cap := 8
  get a e b := (s a (numF e b).1, (numF e b).2)
  keep a b := s b (g a)
def txF (g : SaV → ByteArray) (s : SaV → ByteArray → SaV) : FmV where
  ok a := (g a).size ≤ 65535
  enc a := hi2 (g a).size ++ nl (g a)
  cap := 65537
  get a e b := (s a (textF e b).1, (textF e b).2)
  keep a b := s b (g a)
/-- parts, one behind the other -/
def okL : List FmV → SaV → Prop
  | [], _ => True
  | f :: l, a => f.ok a ∧ okL l a
def encFL : List FmV → SaV → List Nat
  | [], _ => []
  | f :: l, a => f.enc a ++ encFL l a
def capL : List FmV → Nat
  | [] => 0
  | f :: l => f.cap + capL l
def getL : List FmV → SaV → Int → ByteArray → SaV × Int × ByteArray
  | [], a, e, b => (a, e, b)
  | f :: l, a, e, b => getL l (f.get a e b).1 (f.get a e b).2.1 (f.get a e b).2.2
def keepL : List FmV → SaV → SaV → SaV
  | [], _, b => b
  | f :: l, a, b => keepL l a (f.keep a b)
def allF (l : List FmV) : FmV := ⟨okL l, encFL l, capL l, getL l, keepL l⟩
theorem okL_snoc (l : List FmV) (f : FmV) (a : SaV) : okL (l ++ [f]) a ↔ okL l a ∧ f.ok a := by
  induction l with
  | nil => simp [okL]
  | cons g l ih => simp only [List.cons_append, okL, ih, and_assoc]
theorem encFL_snoc (l : List FmV) (f : FmV) (a : SaV) : encFL (l ++ [f]) a = encFL l a ++ f.enc a := by
  induction l with
  | nil => simp [encFL]
  | cons g l ih => simp only [List.cons_append, encFL, ih, List.append_assoc]
theorem capL_snoc (l : List FmV) (f : FmV) : capL (l ++ [f]) = capL l + f.cap := by
  induction l with
  | nil => simp [capL]
  | cons g l ih => simp only [List.cons_append, capL, ih, Nat.add_assoc]
theorem getL_snoc (l : List FmV) (f : FmV) (a : SaV) (e : Int) (b : ByteArray) : getL (l ++ [f]) a e b = f.get (getL l a e b).1 (getL l a e b).2.1 (getL l a e b).2.2 := by
  induction l generalizing a e b with
  | nil => rfl
  | cons g l ih => simp only [List.cons_append, getL, ih]
theorem keepL_snoc (l : List FmV) (f : FmV) (a b : SaV) : keepL (l ++ [f]) a b = f.keep a (keepL l a b) := by
  induction l generalizing b with
  | nil => rfl
  | cons g l ih => simp only [List.cons_append, keepL, ih]
/-- the pairs of a crash -/
def pairF (e : Int) (s : ByteArray) : Int × Int × ByteArray := ((byteF e s).1 * 256 + (byteF (byteF e s).2.1 (byteF e s).2.2).1, (byteF (byteF e s).2.1 (byteF e s).2.2).2)
def okW (l : List (Bool × Int)) : Prop := ∀ x ∈ l, 0 ≤ x.2 ∧ x.2 ≤ 65535
def encW : List (Bool × Int) → List Nat
  | [] => []
  | x :: l => [if x.1 then 1 else 0] ++ hi2 x.2.toNat ++ encW l
def getW : Nat → Int → ByteArray → List (Bool × Int) × Int × ByteArray
  | 0, e, b => ([], e, b)
  | n + 1, e, b => let x := byteF e b; let y := pairF x.2.1 x.2.2; let z := getW n y.2.1 y.2.2; (((decide (x.1 ≠ 0)), y.1) :: z.1, z.2)
def wrF : FmV where
  ok a := a.ws.length ≤ 255 ∧ okW a.ws
  enc a := [a.ws.length] ++ encW a.ws
  cap := 200000
  get a e b := ({ a with ws := a.ws ++ (getW (byteF e b).1.toNat (byteF e b).2.1 (byteF e b).2.2).1 }, (getW (byteF e b).1.toNat (byteF e b).2.1 (byteF e b).2.2).2)
  keep a b := { b with ws := a.ws }
/-- the fields -/
def fC : FmV := smF SaV.c fun a x => { a with c := x }
def fN : FmV := smF SaV.n fun a x => { a with n := x }
def fT : FmV := nuF SaV.t fun a x => { a with t := x }
def fD : FmV := txF SaV.d fun a x => { a with d := x }
def fMs : List FmV := [smF SaV.mk fun a x => { a with mk := x }, smF SaV.mt fun a x => { a with mt := x }, nuF SaV.mh fun a x => { a with mh := x }, smF SaV.pf fun a x => { a with pf := x }, nuF SaV.pq fun a x => { a with pq := x }, nuF SaV.pt fun a x => { a with pt := x }, txF SaV.pd fun a x => { a with pd := x }, txF SaV.mp fun a x => { a with mp := x }]
def formsL : List FmV := [allF [fC, fT, fD], fC, allF [], fN, fN, fN, allF fMs, fN, wrF]
end Go.Proofs.Ytjilbcefikbihaa
