/- Merged: FrM, FrParts. Plain mathematics of records in sectors. No condition but sizes. Contract of frame.Parts. No condition. -/
import Derived.Test.YtbpgfhcecanikaaGreatHdMQ
import Derived.WalkSpells
namespace Go.Proofs.YtbpgfhcecanikaaGreat
open Go.RowKit
set_option linter.unusedVariables false
structure FrP where
  g : Nat
  x : Nat
  i : Nat
  n : Nat
  d : ByteArray
deriving DecidableEq
def frBody (a : Nat) (p : FrP) : List Nat := ((((([] ++ [82]) ++ num8 p.g) ++ num8 p.x) ++ [p.i]) ++ [p.n]) ++ hi2 p.d.size ++ nl p.d ++ List.replicate (a - 25 - p.d.size) 0
def frSec (a : Nat) (p : FrP) : ByteArray := sealT (txt (frBody a p))
def nParts (a b : Nat) : Nat := max 1 ((b + (a - 25) - 1) / (a - 25))
def FrSz (a : Int) : Prop := 64 ≤ a ∧ a ≤ 512
instance (a : Int) : Decidable (FrSz a) := by unfold FrSz; infer_instance
def frParts (a b : Int) : Int := if FrSz a ∧ 0 ≤ b ∧ b ≤ 4096 then (nParts a.toNat b.toNat : Int) else 0
def mayP (a : Nat) (p : FrP) : Prop := p.i < p.n ∧ p.d.size ≤ a - 25 ∧ (p.i + 1 < p.n → p.d.size = a - 25) ∧ (0 < p.i → 0 < p.d.size) ∧ (if p.i + 1 = p.n then (p.n - 1) * (a - 25) + p.d.size else (p.n - 1) * (a - 25) + 1) ≤ 4096
instance (a : Nat) (p : FrP) : Decidable (mayP a p) := by unfold mayP; infer_instance
def lenOf (s : ByteArray) : Nat := 256 * (nl s).getD 19 0 + (nl s).getD 20 0
def pOf (s : ByteArray) : FrP := ⟨WireM.val (((nl s).drop 1).take 8), WireM.val (((nl s).drop 9).take 8), (nl s).getD 17 0, (nl s).getD 18 0, s.extract 21 (21 + lenOf s)⟩
def okSec (a : Nat) (s : ByteArray) : Prop := mayP a (pOf s) ∧ frSec a (pOf s) = s
instance (a : Nat) (s : ByteArray) : Decidable (okSec a s) := by unfold okSec; infer_instance
def frRead (a : Int) (s : ByteArray) : Option FrP × Int :=
  if ¬ FrSz a then (none, 1) else if (s.size : Int) ≠ a then (none, 6) else if rightB s = false then (none, 8) else if okSec a.toNat s then (some (pOf s), 0) else (none, 5)
theorem hi2_lt (k : Nat) (h : k < 65536) : ∀ b ∈ hi2 k, b < 256 := by
  intro b hb
  simp only [hi2, List.mem_cons, List.not_mem_nil, or_false] at hb
  rcases hb with rfl | rfl <;> omega
theorem frBody_lt (a : Nat) (p : FrP) (hi : p.i < 256) (hn : p.n < 256) (hd : p.d.size < 65536) : ∀ b ∈ frBody a p, b < 256 := by
  intro b hb
  unfold frBody at hb
  simp only [List.mem_append, List.not_mem_nil, false_or, List.mem_singleton] at hb
  rcases hb with (((((((hb | hb) | hb) | hb) | hb) | hb) | hb) | hb)
  · rw [hb]; decide
  · exact num8_lt _ _ hb
  · exact num8_lt _ _ hb
  · omega
  · omega
  · exact hi2_lt _ hd _ hb
  · exact nl_lt _ _ hb
  · rw [List.eq_of_mem_replicate hb]; decide
theorem frBody_length (a : Nat) (p : FrP) (ha : 25 ≤ a) (hd : p.d.size ≤ a - 25) : (frBody a p).length = a - 4 := by
  unfold frBody
  simp only [List.length_append, List.length_singleton, List.length_nil, num8_length, List.length_replicate, nl_length]
  rw [show (hi2 p.d.size).length = 2 from rfl]
  omega
theorem frSec_size (a : Nat) (p : FrP) (ha : 25 ≤ a) (hd : p.d.size ≤ a - 25) : (frSec a p).size = a := by
  unfold frSec
  rw [seal_size, txt_size, frBody_length a p ha hd]
  omega
theorem mayP_n (a : Nat) (p : FrP) (ha : 64 ≤ a) (h : mayP a p) : p.i < p.n ∧ p.n ≤ 106 := by
  obtain ⟨h1, h2, h3, h4, h5⟩ := h
  refine ⟨h1, ?_⟩
  have h6 : (p.n - 1) * (a - 25) ≤ 4096 := by split at h5 <;> omega
  have h7 : (p.n - 1) * 39 ≤ (p.n - 1) * (a - 25) := Nat.mul_le_mul_left _ (by omega)
  omega
theorem nl_frSec (a : Nat) (p : FrP) (hi : p.i < 256) (hn : p.n < 256) (hd : p.d.size < 65536) : nl (frSec a p) = frBody a p ++ CrcM.bytes (CrcM.upd 0 (frBody a p)) := by
  unfold frSec
  rw [nl_seal, nl_txt _ (frBody_lt a p hi hn hd)]
theorem nl_secs (a : Nat) (p : FrP) (hi : p.i < 256) (hn : p.n < 256) (hd : p.d.size < 65536) : nl (frSec a p) = 82 :: (num8 p.g ++ (num8 p.x ++ (p.i :: p.n :: (p.d.size / 256) :: (p.d.size % 256) :: (nl p.d ++ (List.replicate (a - 25 - p.d.size) 0 ++ CrcM.bytes (CrcM.upd 0 (frBody a p))))))) := by
  rw [nl_frSec a p hi hn hd]
  generalize CrcM.bytes (CrcM.upd 0 (frBody a p)) = T
  unfold frBody hi2
  simp only [List.append_assoc, List.cons_append, List.nil_append]
/-- what was put stands at its places -/
theorem pOf_sec (a : Nat) (p : FrP) (ha : 64 ≤ a) (ha2 : a ≤ 512) (h : mayP a p) (hg : p.g < M64) (hx : p.x < M64) : pOf (frSec a p) = p := by
  obtain ⟨h1, h2⟩ := mayP_n a p ha h
  have hd : p.d.size < 65536 := by have := h.2.1; omega
  have hl := nl_secs a p (by omega) (by omega) hd
  have hsz : (nl (frSec a p)).length = a := by rw [nl_length, frSec_size a p (by omega) h.2.1]
  generalize CrcM.bytes (CrcM.upd 0 (frBody a p)) = T at hl
  have e1 : WireM.val (((nl (frSec a p)).drop 1).take 8) = p.g := by
    rw [hl, List.drop_succ_cons, List.drop_zero, List.take_append_of_le_length (by rw [num8_length]; exact Nat.le_refl _), List.take_of_length_le (by rw [num8_length]; exact Nat.le_refl _)]
    exact val_num8 _ hg
  have e2 : WireM.val (((nl (frSec a p)).drop 9).take 8) = p.x := by
    rw [hl, List.drop_succ_cons, show 8 = 8 + 0 from rfl, List.drop_append, num8_length]
    simp only [Nat.add_zero, Nat.sub_self, List.drop_zero]
    rw [List.drop_of_length_le (by rw [num8_length]; exact Nat.le_refl _), List.nil_append, List.take_append_of_le_length (by rw [num8_length]; exact Nat.le_refl _), List.take_of_length_le (by rw [num8_length]; exact Nat.le_refl _)]
    exact val_num8 _ hx
  have e3 : (nl (frSec a p)).getD 17 0 = p.i := by rw [hl]; rfl
  have e4 : (nl (frSec a p)).getD 18 0 = p.n := by rw [hl]; rfl
  have e5 : lenOf (frSec a p) = p.d.size := by
    unfold lenOf
    rw [hl, show (82 :: (num8 p.g ++ (num8 p.x ++ (p.i :: p.n :: (p.d.size / 256) :: (p.d.size % 256) :: (nl p.d ++ (List.replicate (a - 25 - p.d.size) 0 ++ T)))))).getD 19 0 = p.d.size / 256 from rfl, show (82 :: (num8 p.g ++ (num8 p.x ++ (p.i :: p.n :: (p.d.size / 256) :: (p.d.size % 256) :: (nl p.d ++ (List.replicate (a - 25 - p.d.size) 0 ++ T)))))).getD 20 0 = p.d.size % 256 from rfl]
    omega
  have e6 : (frSec a p).extract 21 (21 + p.d.size) = p.d := by
    apply nl_inj
    rw [nl_extract, hl, show 21 + p.d.size - 21 = p.d.size by omega]
    rw [show (82 :: (num8 p.g ++ (num8 p.x ++ (p.i :: p.n :: (p.d.size / 256) :: (p.d.size % 256) :: (nl p.d ++ (List.replicate (a - 25 - p.d.size) 0 ++ T)))))).drop 21 = nl p.d ++ (List.replicate (a - 25 - p.d.size) 0 ++ T) from rfl]
    rw [List.take_append_of_le_length (by rw [nl_length]; exact Nat.le_refl _), List.take_of_length_le (by rw [nl_length]; exact Nat.le_refl _)]
  unfold pOf
  rw [e1, e2, e3, e4, e5, e6]
theorem frRead_sec (a : Nat) (p : FrP) (ha : 64 ≤ a) (ha2 : a ≤ 512) (h : mayP a p) (hg : p.g < M64) (hx : p.x < M64) : frRead a (frSec a p) = (some p, 0) := by
  have hp := pOf_sec a p ha ha2 h hg hx
  unfold frRead
  rw [if_neg (by unfold FrSz; omega), if_neg (by rw [frSec_size a p (by omega) h.2.1]; simp), if_neg (by unfold frSec; rw [right_seal]; simp), Int.toNat_natCast, if_pos (by unfold okSec; rw [hp]; exact ⟨h, rfl⟩), hp]
/-! ### the records at the front -/
def partAt (a : Nat) (s : ByteArray) (k : Nat) : Option FrP := if k * a + a ≤ s.size then (frRead a (s.extract (k * a) (k * a + a))).1 else none
def datAt (a : Nat) (s : ByteArray) (k : Nat) : ByteArray := match partAt a s k with | some p => p.d | none => ⟨#[]⟩
def numAt (a : Nat) (s : ByteArray) (u : Nat) : Nat := match partAt a s u with | some p => p.n | none => 0
def okPart (a g x : Nat) (s : ByteArray) (u n i : Nat) : Prop := partAt a s (u + i) = some ⟨g, x, i, n, datAt a s (u + i)⟩
instance (a g x : Nat) (s : ByteArray) (u n i : Nat) : Decidable (okPart a g x s u n i) := by unfold okPart; infer_instance
def recOk (a g x : Nat) (s : ByteArray) (u : Nat) : Prop := 0 < numAt a s u ∧ ∀ i, i < numAt a s u → okPart a g x s u (numAt a s u) i
instance (a g x : Nat) (s : ByteArray) (u : Nat) : Decidable (recOk a g x s u) := by unfold recOk; infer_instance
/-- the bytes of so many parts -/
def joinD (a : Nat) (s : ByteArray) (u : Nat) : Nat → List Nat
  | 0 => []
  | n + 1 => joinD a s u n ++ nl (datAt a s (u + n))
def scanF (a g : Nat) (s : ByteArray) : Nat → Nat → Nat → List ByteArray × Nat
  | 0, _, u => ([], u)
  | f + 1, x, u => if recOk a g x s u then (txt (joinD a s u (numAt a s u)) :: (scanF a g s f (x + 1) (u + numAt a s u)).1, (scanF a g s f (x + 1) (u + numAt a s u)).2) else ([], u)
def scanAll (a : Int) (g : Nat) (s : ByteArray) : List ByteArray × Nat := if FrSz a then scanF a.toNat g s (s.size + 1) 0 0 else ([], 0)
theorem joinD_lt (a : Nat) (s : ByteArray) (u n : Nat) : ∀ b ∈ joinD a s u n, b < 256 := by
  induction n with
  | zero => intro b hb; cases hb
  | succ n ih =>
    intro b hb
    rcases List.mem_append.1 hb with h | h
    · exact ih b h
    · exact nl_lt _ b h
theorem partAt_in {a : Nat} {s : ByteArray} {k : Nat} {p : FrP} (h : partAt a s k = some p) : k * a + a ≤ s.size := by
  unfold partAt at h
  split at h
  · assumption
  · cases h
theorem frRead_some {a : Int} {s : ByteArray} {p : FrP} (h : (frRead a s).1 = some p) : FrSz a ∧ mayP a.toNat p ∧ p = pOf s ∧ frRead a s = (some p, 0) := by
  unfold frRead at h ⊢
  split at h
  · cases h
  · rename_i h0
    split at h
    · cases h
    · split at h
      · cases h
      · split at h
        · rename_i h1
          cases h
          refine ⟨Decidable.not_not.1 h0, h1.1, rfl, ?_⟩
          rw [if_neg h0, if_neg (by assumption), if_neg (by assumption), if_pos h1]
        · cases h
theorem frRead_none {a : Int} {s : ByteArray} (h : (frRead a s).1 = none) : (frRead a s).2 ≠ 0 := by
  unfold frRead at h ⊢
  split at h
  · rw [if_pos (by assumption)]; decide
  · rw [if_neg (by assumption)]
    split at h
    · rw [if_pos (by assumption)]; decide
    · rw [if_neg (by assumption)]
      split at h
      · rw [if_pos (by assumption)]; decide
      · rw [if_neg (by assumption)]
        split at h
        · cases h
        · rw [if_neg (by assumption)]; decide
theorem recOk_in {a g x : Nat} {s : ByteArray} {u : Nat} (h : recOk a g x s u) : 0 < numAt a s u ∧ (u + numAt a s u) * a ≤ s.size := by
  refine ⟨h.1, ?_⟩
  have h1 := partAt_in (h.2 (numAt a s u - 1) (by have := h.1; omega))
  have h2 : u + numAt a s u = u + (numAt a s u - 1) + 1 := by have := h.1; omega
  rw [h2, Nat.add_mul, Nat.one_mul]
  exact h1
/-- one record further -/
theorem scanF_yes {a g x u f : Nat} {s : ByteArray} (h : recOk a g x s u) : scanF a g s (f + 1) x u = (txt (joinD a s u (numAt a s u)) :: (scanF a g s f (x + 1) (u + numAt a s u)).1, (scanF a g s f (x + 1) (u + numAt a s u)).2) := by
  rw [scanF, if_pos h]
theorem scanF_no {a g x u f : Nat} {s : ByteArray} (h : ¬ recOk a g x s u) : scanF a g s f x u = ([], u) := by
  cases f with
  | zero => rfl
  | succ f => rw [scanF, if_neg h]
/-- a scan on its way -/
structure ScanAt (a g : Nat) (s : ByteArray) (acc : List ByteArray) (u : Nat) : Prop where
  eq : scanF a g s (s.size + 1) 0 0 = (acc ++ (scanF a g s (s.size + 1 - acc.length) acc.length u).1, (scanF a g s (s.size + 1 - acc.length) acc.length u).2)
  le : acc.length ≤ u
  fits : u * a ≤ s.size
theorem ScanAt.start (a g : Nat) (s : ByteArray) : ScanAt a g s [] 0 := ⟨by simp, Nat.le_refl _, by simp⟩
theorem ScanAt.u_le {a g : Nat} {s : ByteArray} {acc : List ByteArray} {u : Nat} (h : ScanAt a g s acc u) (ha : 64 ≤ a) : 64 * u ≤ s.size := by
  have := h.fits
  have h2 : u * 64 ≤ u * a := Nat.mul_le_mul_left _ ha
  omega
theorem ScanAt.step {a g : Nat} {s : ByteArray} {acc : List ByteArray} {u : Nat} (h : ScanAt a g s acc u) (ha : 64 ≤ a) (hr : recOk a g acc.length s u) :
    ScanAt a g s (acc ++ [txt (joinD a s u (numAt a s u))]) (u + numAt a s u) := by
  have hu := h.u_le ha
  have hle := h.le
  obtain ⟨h1, h2⟩ := recOk_in hr
  have h0 := h.eq
  have e : s.size + 1 - acc.length = (s.size + 1 - (acc.length + 1)) + 1 := by omega
  rw [e, scanF_yes hr] at h0
  refine ⟨?_, by simp; omega, h2⟩
  rw [h0]
  simp
theorem ScanAt.stop {a g : Nat} {s : ByteArray} {acc : List ByteArray} {u : Nat} (h : ScanAt a g s acc u) (hr : ¬ recOk a g acc.length s u) : scanF a g s (s.size + 1) 0 0 = (acc, u) := by
  rw [h.eq, scanF_no hr]
  simp
theorem scanF_len (a g : Nat) (s : ByteArray) : ∀ f x u, (scanF a g s f x u).1.length ≤ f := by
  intro f
  induction f with
  | zero => intro x u; exact Nat.le_refl _
  | succ f ih =>
    intro x u
    rw [scanF]
    split
    · simp only [List.length_cons]
      exact Nat.succ_le_succ (ih _ _)
    · simp
theorem scan_len (a : Int) (g : Nat) (s : ByteArray) : (scanAll a g s).1.length ≤ s.size + 1 := by
  unfold scanAll
  split
  · exact scanF_len _ _ _ _ _ _
  · simp
end Go.Proofs.YtbpgfhcecanikaaGreat
namespace Go.Proofs.YtbpgfhcecanikaaGreat
open Go.RowKit
set_option linter.unusedVariables false
theorem nParts_eq (a b : Nat) (ha : 64 ≤ a) : nParts a b = if 1 < (b + (a - 25) - 1) / (a - 25) then (b + (a - 25) - 1) / (a - 25) else 1 := by
  unfold nParts
  split <;> omega
theorem quo_parts (a b : Nat) (ha : 64 ≤ a) (hb : b ≤ 4096) (h5 : a ≤ 512) : ((b : Int) + ((a : Int) - 25) - 1).tdiv ((a : Int) - 25) = (((b + (a - 25) - 1) / (a - 25) : Nat) : Int) := by
  rw [show (b : Int) + ((a : Int) - 25) - 1 = ((b + (a - 25) - 1 : Nat) : Int) by omega, show (a : Int) - 25 = ((a - 25 : Nat) : Int) by omega]
  exact (Int.ofNat_tdiv _ _).symm
set_option maxRecDepth 100000 in
theorem fr_parts_no (a b : Int) (w : World) (h : ¬ (FrSz a ∧ 0 ≤ b ∧ b ≤ 4096)) : Calls Tryz.prog 38 #[.int .i64 a, .int .i64 b] w fun x w' => x = .returned (.int .i64 0) ∧ w = w' := by
  by_cases h0 : a < 64
  · have d0 : decide (a < 64) = true := decide_eq_true h0
    clear h h0
    go_enter Tryz.func38, Tryz.ntmps38
    go_wp2
    go_ret
    exact ⟨rfl, rfl⟩
  have d0 : decide (a < 64) = false := decide_eq_false h0
  by_cases h1 : 512 < a
  · have d1 : decide (512 < a) = true := decide_eq_true h1
    clear h h0 h1
    go_enter Tryz.func38, Tryz.ntmps38
    go_wp2
    go_ret
    exact ⟨rfl, rfl⟩
  have d1 : decide (512 < a) = false := decide_eq_false h1
  by_cases h2 : b < 0
  · have d2 : decide (b < 0) = true := decide_eq_true h2
    clear h h0 h1 h2
    go_enter Tryz.func38, Tryz.ntmps38
    go_wp2
    go_ret
    exact ⟨rfl, rfl⟩
  have d2 : decide (b < 0) = false := decide_eq_false h2
  have h3 : 4096 < b := by unfold FrSz at h; omega
  have d3 : decide (4096 < b) = true := decide_eq_true h3
  clear h h0 h1 h2 h3
  go_enter Tryz.func38, Tryz.ntmps38
  go_wp2
  go_ret
  exact ⟨rfl, rfl⟩
set_option maxRecDepth 100000 in
theorem fr_parts_ok (a b : Nat) (w : World) (ha : 64 ≤ a) (h5 : a ≤ 512) (hb : b ≤ 4096) : Calls Tryz.prog 38 #[.int .i64 (a : Int), .int .i64 (b : Int)] w fun x w' => x = .returned (.int .i64 ((nParts a b : Nat) : Int)) ∧ w = w' := by
  have d0 : decide ((a : Int) < 64) = false := decide_eq_false (by omega)
  have e0 : decide (a < 64) = false := decide_eq_false (by omega)
  have d1 : decide ((512 : Int) < (a : Int)) = false := decide_eq_false (by omega)
  have e1 : decide (512 < a) = false := decide_eq_false (by omega)
  have d2 : decide ((b : Int) < 0) = false := decide_eq_false (by omega)
  have d3 : decide ((4096 : Int) < (b : Int)) = false := decide_eq_false (by omega)
  have e3 : decide (4096 < b) = false := decide_eq_false (by omega)
  have z0 : ((a : Int) - 25 == 0) = false := by simp; omega
  have hq := quo_parts a b ha hb h5
  have hql : (b + (a - 25) - 1) / (a - 25) ≤ 5000 := Nat.le_trans (Nat.div_le_self _ _) (by omega)
  have HN := Lib.hid (nParts_eq a b ha)
  generalize (b + (a - 25) - 1) / (a - 25) = q at *
  by_cases hc : 1 < q
  · have c0 : decide ((1 : Int) < (q : Int)) = true := decide_eq_true (by omega)
    have HN : Hid (nParts a b = q) := Lib.hid (by rw [HN.out, if_pos hc])
    rw [HN.out]
    go_enter Tryz.func38, Tryz.ntmps38
    go_wp2
    go_ret
    exact ⟨rfl, rfl⟩
  · have c0 : decide ((1 : Int) < (q : Int)) = false := decide_eq_false (by omega)
    have HN : Hid (nParts a b = 1) := Lib.hid (by rw [HN.out, if_neg hc])
    rw [HN.out]
    go_enter Tryz.func38, Tryz.ntmps38
    go_wp2
    go_ret
    exact ⟨rfl, rfl⟩
theorem fr_parts (a b : Int) (w : World) : Calls Tryz.prog 38 #[.int .i64 a, .int .i64 b] w fun x w' => x = .returned (.int .i64 (frParts a b)) ∧ w = w' := by
  unfold frParts
  by_cases h : FrSz a ∧ 0 ≤ b ∧ b ≤ 4096
  · rw [if_pos h]
    obtain ⟨⟨h1, h2⟩, h3, h4⟩ := h
    obtain ⟨n, rfl⟩ := Int.eq_ofNat_of_zero_le (show 0 ≤ a by omega)
    obtain ⟨m, rfl⟩ := Int.eq_ofNat_of_zero_le h3
    exact fr_parts_ok n m w (by omega) (by omega) (by omega)
  · rw [if_neg h]
    exact fr_parts_no a b w h
end Go.Proofs.YtbpgfhcecanikaaGreat
